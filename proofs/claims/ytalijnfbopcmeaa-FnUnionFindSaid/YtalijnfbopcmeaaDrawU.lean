/-
  Walks and plain lemmas for the laws of this seat: what single Go functions return, for every argument.
-/
import Derived.Deep.Quiet
import Derived.Test.YtalijnfbopcmeaaDraw
import Derived.Test.YtalijnfbopcmeaaDrawF
import Derived.Test.YtalijnfbopcmeaaMem
import Derived.Test.YtalijnfbopcmeaaPlan
import Derived.Test.YtalijnfbopcmeaaUfN
import Derived.Test.YtalijnfbopcmeaaUfU
import Derived.Test.YtalijnfbopcmeaaDrawG
namespace Go.Proofs.Ytalijnfbopcmeaa
open Go.RowKit

def UfSmall (x : List Int) : Prop := (1 ≤ x.length ∧ x.length ≤ 6) ∧ ∀ z ∈ x, -41 ≤ z ∧ z ≤ 10
theorem UfSmall.wf {x : List Int} (h : UfSmall x) : UnionFind_wf x := fun i hi => by
  have := h.2 _ (List.getElem_mem hi); omega
theorem UfSmall.sz {x : List Int} (h : UfSmall x) : UnionFind_sz x ≤ 6 := h.1.2
theorem newUf_bd (n : Nat) (hn : n ≤ 40) : ∀ z ∈ newUf n, -41 ≤ z ∧ z ≤ 10 := by
  induction n with
  | zero => intro z hz; cases hz
  | succ n ih =>
    intro z hz
    rcases List.mem_append.1 hz with h | h
    · exact ih (by omega) z h
    · rw [List.mem_singleton.1 h]; omega
theorem ufFind_range {x : List Int} {v lo hi : Int} (hx : ∀ z ∈ x, lo ≤ z ∧ z ≤ hi) (hv : lo ≤ v ∧ v ≤ hi) : lo ≤ ufFind x v ∧ ufFind x v ≤ hi := by
  unfold ufFind
  split
  · rename_i h
    have hl : (-1 - v).toNat < x.length := by omega
    rw [← List.getElem_eq_getD (h := hl)]
    exact hx _ (List.getElem_mem hl)
  · exact hv
theorem Union_range {x : List Int} {a b lo hi : Int} (hx : ∀ z ∈ x, lo ≤ z ∧ z ≤ hi) (ha : lo ≤ a ∧ a ≤ hi) (hb : lo ≤ b ∧ b ≤ hi) : ∀ z ∈ Union_r0 x a b, lo ≤ z ∧ z ≤ hi := by
  have h1 := ufFind_range hx ha
  have h2 := ufFind_range hx hb
  unfold Union_r0
  split
  · intro z hz
    obtain ⟨y, hy, rfl⟩ := List.mem_map.1 hz
    unfold swapI
    split
    · omega
    · exact hx y hy
  · exact hx
/-- a union-find of the call's own, small -/
def GivesUf (w : World) (p : Nat) (cv : Value) (code : List UInt8) (e : Ending) (w' : World) : Prop :=
  ∃ V x, e = .returned V ∧ UnionFind_own w.heap.size w'.heap.size V x w' ∧ UfSmall x ∧ (∃ st', CurS w' p cv code st') ∧ w.grownBy w' (some p)
set_option maxHeartbeats 6400000 in
set_option maxRecDepth 100000 in
theorem l8Uf_c (p : Nat) (cv : Value) (code : List UInt8) (st : DrawSt) (w : World) (hC : CurS w p cv code st) :
    Calls Try.prog 45 #[.pointer (some ⟨p, 0, none⟩)] w (GivesUf w p cv code) := by
  have hp := Cur.lt hC
  have hb := belowR_bd code
  obtain ⟨m, hm⟩ : ∃ m, m = w.heap.size := ⟨_, rfl⟩
  obtain ⟨E, hEq⟩ : ∃ E, E = w.alloc (.cells #[.slice none 0 0] 26) := ⟨_, rfl⟩
  have hEz : E.heap.size = m + 1 := by rw [hEq, hm]; simp
  have r0 : E.cell? ⟨m, 0, none⟩ = some (.slice none 0 0) := by rw [hEq, hm]; simp [go_sem]
  have rz : ∀ o, E.frozen? ⟨m, o, none⟩ = false := fun o => by rw [hEq, hm]; simp [go_sem]
  have hCE : CurS E p cv code st := by rw [hEq]; exact Cur.alloc hC _
  have hgE : w.grownBy E (some p) := by rw [hEq]; exact World.grownBy_alloc w _ (some p)
  go_enter Try.func45, Try.ntmps45
  go_upto_region 1 with fail
  rw [← hEq, ← hm]
  have HM := Lib.hid hm
  clear hEq hm
  go_wp2_with fail
  have j1 := hb st 6
  have j2 := j1.2 (by omega)
  have j1 := j1.1
  refine (l1Below_r p cv code _ _ _ hCE).mono ?_; rintro e w1 ⟨rfl, hC1, hg1⟩
  generalize belowR code st 6 = b at *
  obtain ⟨bv, st1⟩ := b
  dsimp only at *
  obtain ⟨N, hN⟩ : ∃ N : Nat, (N : Int) = 1 + bv := ⟨(1 + bv).toNat, by omega⟩
  have hN1 : 1 ≤ N ∧ N ≤ 6 := by omega
  have hm1 := grown_cell hg1 r0 (by have := HM.out; omega)
  have hmz1 := fun o => grown_frozen hg1 (b := m) (o := o) (by omega) (by have := HM.out; omega) (rz o)
  have hz1 := hg1.size
  have hgw1 := hgE.trans hg1
  clear r0 rz hCE hgE hg1 j1 j2
  go_wp2_with fail
  rw [← hN]
  clear hN
  refine (specNewUf_any (N : Int) _ (by omega) (by omega)).mono ?_
  rintro e w2 ⟨r, rfl, hO2, hb2⟩
  have hr0 : NewUnionFind_r0 (N : Int) = newUf N := by unfold NewUnionFind_r0; rw [if_pos (by omega), Int.toNat_natCast]
  rw [hr0] at hO2
  obtain ⟨P2, c2, rfl⟩ := UnionFind_form (hO2.at_ (Nat.le_refl _))
  obtain ⟨_, hV, hO2⟩ := hO2
  simp only [Value.agg.injEq, Array.mk.injEq, List.cons.injEq, and_true] at hV
  subst hV
  have hz2 := hb2.size
  have hm2 := (hb2.cell (p := ⟨m, 0, none⟩) (by show m < _; omega)).trans hm1
  have hmz2 := fun o => (hb2.frozen (p := ⟨m, o, none⟩) (by show m < _; omega)).trans (hmz1 o)
  have hC2 := Cur.below hC1 hC1 hb2
  have hgw2 := grown_of_below hgw1 (hb2.mono (by have := HM.out; omega))
  obtain ⟨g, hg⟩ : ∃ g, g = w2.heap.size := ⟨_, rfl⟩
  obtain ⟨W, hWq⟩ : ∃ W, W = w2.alloc (.cells #[.slice P2 (newUf N).length c2] 26) := ⟨_, rfl⟩
  have hAl : Below g w2 W := by rw [hWq]; exact (Below.refl _ _).alloc (by omega) _
  have hWz : W.heap.size = g + 1 := by rw [hWq, hg]; simp
  have y0 : W.cell? ⟨g, 0, none⟩ = some (.slice P2 (newUf N).length c2) := by rw [hWq, hg]; simp [go_sem]
  have yz : ∀ o, W.frozen? ⟨g, o, none⟩ = false := fun o => by rw [hWq, hg]; simp [go_sem]
  have hmg : m < g := by omega
  have hm3 := (hAl.cell (p := ⟨m, 0, none⟩) (by show m < g; omega)).trans hm2
  have hmz3 := fun o => (hAl.frozen (p := ⟨m, o, none⟩) (by show m < g; omega)).trans (hmz2 o)
  have hC3 : CurS W p cv code st1 := by rw [hWq]; exact Cur.alloc hC2 _
  have hgw3 := grown_of_below hgw2 (hAl.mono (by have := HM.out; omega))
  have hO3 : OwnInts (m + 1) (.slice P2 (newUf N).length c2) (newUf N) W := by
    have h1 := hO2.1.below hAl (by omega)
    exact h1.mono (by omega)
  have hne3 : ∀ q, (Value.slice P2 (newUf N).length c2).ownBlock = some q → q ≠ g := fun q hq => by have := hO2.2 q hq; omega
  go_upto_region 3 with fail
  rw [← hg, ← hWq]
  clear hWq hm1 hmz1 hm2 hmz2 hC2 hgw2 hAl hb2 hgw1 hC1 hO2 hg
  go_wp2_with fail
  have j1 := hb st1 5
  have j2 := j1.2 (by omega)
  have j1 := j1.1
  refine (l1Below_r p cv code _ _ _ hC3).mono ?_; rintro e w4 ⟨rfl, hC4, hg4⟩
  generalize belowR code st1 5 = b at *
  obtain ⟨kv, st2⟩ := b
  dsimp only at *
  obtain ⟨K, rfl⟩ : ∃ K : Nat, kv = (K : Int) := ⟨kv.toNat, by omega⟩
  have hpm : p < m := by have := HM.out; omega
  have hm4 := grown_cell hg4 hm3 (by omega)
  have hmz4 := fun o => grown_frozen hg4 (b := m) (o := o) (by omega) (by omega) (hmz3 o)
  have y4 := grown_cell hg4 y0 (by omega)
  have yz4 := fun o => grown_frozen hg4 (b := g) (o := o) (by omega) (by omega) (yz o)
  have HO4 := Lib.hid (hO3.grown hg4 (by omega))
  have HG4 := Lib.hid (hgw3.trans hg4)
  have hz4 := hg4.size
  have hK4 : K ≤ 4 := by omega
  have HNE4 := Lib.hid hne3
  have HX4 := Lib.hid (newUf_bd N (by omega))
  have HL4 := Lib.hid (newUf_len N)
  clear hm3 hmz3 y0 yz hO3 hgw3 hg4 hC3 j1 j2 hne3
  go_wp2
  go_loopw [5] (fun i wr => ∃ (k : Nat) (V : Value) (x : List Int) (st' : DrawSt), k ≤ 4 ∧ i = .int .i64 (k : Nat) ∧ Hid (x.length = N) ∧ Hid (∀ z ∈ x, -41 ≤ z ∧ z ≤ 10) ∧ wr.cell? ⟨g, 0, none⟩ = some V ∧ (∀ o, wr.frozen? ⟨g, o, none⟩ = false) ∧ wr.cell? ⟨m, 0, none⟩ = some (.slice none 0 0) ∧ (∀ o, wr.frozen? ⟨m, o, none⟩ = false) ∧ Hid (OwnInts (m + 1) V x wr) ∧ Hid (∀ q, V.ownBlock = some q → q ≠ g) ∧ CurS wr p cv code st' ∧ Hid (w.grownBy wr (some p)) ∧ g + 1 ≤ wr.heap.size) (fun i _ => (intOf i).toNat)
  case atStart => exact ⟨K, _, newUf N, _, hK4, rfl, HL4, HX4, y4, yz4, hm4, hmz4, HO4, HNE4, hC4, HG4, by omega⟩
  case round =>
    clear y4 yz4 hm4 hmz4 hC4 HO4 HNE4 HG4 HX4 HL4
    obtain ⟨k, V, x, st', hk, rfl, HXL, HXB, y0, yz, m0, mz, HO, HNE, hCr, HG, hgr⟩ := hrel
    obtain ⟨P3, c3, rfl, -, hcm, -⟩ := id HO.out.at_
    unfold maxLen at hcm
    by_cases hk0 : 0 < k
    · have hd : decide ((0 : Int) < (k : Int)) = true := decide_eq_true (by omega)
      have hd2 : decide (0 < k) = true := decide_eq_true hk0
      have hS : Holds [(⟨g, 0, none⟩, .slice P3 x.length c3)] wr := by
        intro q hq
        simp only [List.mem_cons, List.not_mem_nil, or_false] at hq
        subst hq
        exact y0
      have HSb : Hid (∀ q ∈ [((⟨g, 0, none⟩ : Addr), Value.slice P3 x.length c3)], q.1.block = g) := by
        intro q hq
        simp only [List.mem_cons, List.not_mem_nil, or_false] at hq
        subst hq
        rfl
      have g0 := Keep.cell (h0 := hS) (a := ⟨g, 0, none⟩) (v := .slice P3 x.length c3) (by simp)
      go_wp2_with fail
      refine wp_region_planL (C := fun w' => ∃ u : Keep _ wr hS, w' = u.now) (.still 0 (.still 1 (.still 2 (.move true 3 (.move true 4 (.still 5 (.still 6 (.move true 7 (.move true 8 (.still 9 (.still 10 (.still 11 (.move false 12 .done .none)))) .none) .none))) .none) .none)))) (by kernel_rfl) (by kernel_rfl) (by kernel_rfl) (fun _ => ⟨⟨wr.drew, hS⟩, rfl⟩) ?_
      iterate 3
        refine plan_look _ rfl rfl ?_
        go_big_quiet_step (fail)
        refine wpQuiet_nil ?_
      have i1 := hb st' (N : Int)
      have i2 := i1.2 (by omega)
      have i1 := i1.1
      refine plan_call _ 69 _ _ _ _ _ rfl _ Try.func69 (by kernel_rfl) (by kernel_rfl) ?_ True.intro
      refine (l1Below_r p cv code st' (N : Int) _ (Cur.drewN hCr 1)).mono ?_
      rintro _ w5 ⟨rfl, hC5, hg5⟩
      generalize belowR code st' (N : Int) = b at *
      obtain ⟨bq, st5⟩ := b
      dsimp only at i1 i2 hC5
      have hg5' : wr.grownBy w5 (some p) := ⟨hg5.os, hg5.tape, hg5.output, hg5.size, hg5.block⟩
      have hK5 := hS.grown hg5' (fun q hq => ⟨by rw [HSb.out q hq]; omega, by rw [HSb.out q hq]; intro e; injection e; omega⟩)
      refine ⟨_, rfl, fun _ => ⟨⟨_, hK5⟩, rfl⟩, ?_⟩
      refine plan_put ?_ (by simp only [Act.put, List.setIfInBounds_toArray, List.set_cons_succ, List.set_cons_zero]; rfl)
      refine plan_call _ 57 _ _ _ _ _ rfl _ Try.func57 (by kernel_rfl) (by kernel_rfl) ?_ True.intro
      refine (specNV_is bq (-1 - bq) rfl (by omega) (by omega) w5).mono ?_
      rintro _ _ ⟨rfl, rfl⟩
      refine ⟨_, rfl, fun _ => ⟨⟨_, hK5⟩, rfl⟩, ?_⟩
      refine plan_put ?_ (by simp only [Act.put, List.setIfInBounds_toArray, List.set_cons_succ, List.set_cons_zero]; rfl)
      iterate 2
        refine plan_look _ rfl rfl ?_
        go_big_quiet_step (fail)
        refine wpQuiet_nil ?_
      refine plan_call _ 46 _ _ _ _ _ rfl _ Try.func46 (by kernel_rfl) (by kernel_rfl) ?_ True.intro
      refine (l4Value_c p cv code st5 (N : Int) (by omega) (by omega) _ hC5).mono ?_
      rintro _ w6 ⟨z, hz1', hz2', rfl, ⟨st6, hC6⟩, hg6⟩
      have hg6' := hg5'.trans hg6
      have hK6 := hS.grown hg6' (fun q hq => ⟨by rw [HSb.out q hq]; omega, by rw [HSb.out q hq]; intro e; injection e; omega⟩)
      refine ⟨_, rfl, fun _ => ⟨⟨_, hK6⟩, rfl⟩, ?_⟩
      refine plan_put ?_ (by simp only [Act.put, List.setIfInBounds_toArray, List.set_cons_succ, List.set_cons_zero]; rfl)
      have hz6 := hg6'.size
      have hO6 := HO.out.grown hg6' (by omega)
      have hat : UnionFind_at w6 w6.heap.size (.agg #[.slice P3 x.length c3]) x := ⟨_, rfl, hO6.at_⟩
      have hsx : UnionFind_sz x ≤ 1048576 := by unfold UnionFind_sz IntS_sz; have := HXL.out; omega
      have hwx : UnionFind_wf x := fun i hi => by have := HXB.out _ (List.getElem_mem hi); omega
      refine plan_call _ 15 _ _ _ _ _ rfl _ Try.func15 (by kernel_rfl) (by kernel_rfl) ?_ True.intro
      show Calls Try.prog 15 #[.agg #[.slice P3 x.length c3], .int .i64 (-1 - bq), .int .i64 z] _ _
      refine (specUnion_any _ x (-1 - bq) z w6 hat hwx hsx (by omega) (by omega) (by omega) (by omega)).mono ?_
      rintro _ w7 ⟨r, rfl, hO7, hb7⟩
      obtain ⟨P7, c7, rfl⟩ := UnionFind_form (hO7.at_ (Nat.le_refl _))
      obtain ⟨_, hV7, hO7⟩ := hO7
      simp only [Value.agg.injEq, Array.mk.injEq, List.cons.injEq, and_true] at hV7
      subst hV7
      have hz7 := hb7.size
      have hK7 := hK6.below hb7 (fun q hq => by rw [HSb.out q hq]; omega)
      refine ⟨_, rfl, fun _ => ⟨⟨_, hK7⟩, rfl⟩, ?_⟩
      refine plan_put ?_ (by simp only [Act.put, List.setIfInBounds_toArray, List.set_cons_succ, List.set_cons_zero]; rfl)
      iterate 3
        refine plan_look _ rfl rfl ?_
        go_big_quiet_step (fail)
        refine wpQuiet_nil ?_
      have y7 := (hb7.cell (p := ⟨g, 0, none⟩) (by show g < _; omega)).trans (grown_cell hg6' y0 (by omega))
      have yz7 := fun o => (hb7.frozen (p := ⟨g, o, none⟩) (by show g < _; omega)).trans (grown_frozen hg6' (b := g) (o := o) (by omega) (by omega) (yz o))
      have m7 := (hb7.cell (p := ⟨m, 0, none⟩) (by show m < _; omega)).trans (grown_cell hg6' m0 (by omega))
      have mz7 := fun o => (hb7.frozen (p := ⟨m, o, none⟩) (by show m < _; omega)).trans (grown_frozen hg6' (b := m) (o := o) (by omega) (by omega) (mz o))
      have HC7 := Lib.hid (Cur.below hC hC6 (hb7.mono (by have := hg6'.size; have := HG.out.size; omega)))
      have HG7 := Lib.hid (grown_of_below (HG.out.trans hg6') (hb7.mono (by have := hg6'.size; have := HG.out.size; omega)))
      have HL7 := Lib.hid (show (Union_r0 x (-1 - bq) z).length = N by rw [Union_r0_len]; exact HXL.out)
      have HX7 := Lib.hid (Union_range (a := -1 - bq) (b := z) HXB.out (by omega) (by omega))
      have HO7 := Lib.hid hO7
      clear hO7 hb7 hK7 hK6 hK5 hO6 hat hg6 hg6' hg5 hg5' hC5 hC6 g0 y0 yz m0 mz hCr
      generalize Union_r0 x (-1 - bq) z = x7 at *
      refine plan_skip (w' := w7.setCell ⟨g, 0, none⟩ (.slice P7 x7.length c7)) _ rfl rfl rfl (by simp [go_sem, y7, yz7]) (fun e => by cases e) ?_ True.intro
      refine plan_put ?_ (by simp only [Act.put]; rfl)
      refine plan_done ?_
      have hbf : ∀ u, Below w.heap.size w7 (w7.setCell ⟨g, 0, none⟩ u) := fun u => (Below.refl _ _).setCell (p := ⟨g, 0, none⟩) (by show w.heap.size ≤ g; have := HM.out; omega) _
      have hcf : ∀ u, Chg (fun q => q = g) w7 (w7.setCell ⟨g, 0, none⟩ u) := fun u => (Chg.refl (fun q => q = g) w7).setCell (p := ⟨g, 0, none⟩) rfl _
      have HBF := Lib.hid hbf
      have HCF := Lib.hid hcf
      clear hbf hcf
      have hne7 : ∀ q, (Value.slice P7 x7.length c7).ownBlock = some q → q ≠ g := fun q hq => by have := (HO7.out.1.lt q hq).1; omega
      have HNE7 := Lib.hid hne7
      clear hne7
      obtain ⟨k', rfl⟩ : ∃ k', k = k' + 1 := ⟨k - 1, by omega⟩
      go_wp2
      go_roundw
      case rel =>
        refine ⟨k', .slice P7 x7.length c7, x7, st6, by omega, by go_num, HL7, HX7, by simp [go_sem, y7], fun o => by simp [yz7], by simp [go_sem, m7], fun o => by simp [mz7], Lib.hid ?_, HNE7, Cur.below hC HC7.out (HBF.out _), Lib.hid (grown_of_below HG7.out (HBF.out _)), by have := (HCF.out (.slice P7 x7.length c7)).size; omega⟩
        exact (HO7.out.1.chg (HCF.out _) (fun q hq e => HNE7.out q hq e)).mono (by omega)
      case measure => simp [intOf]
    · obtain rfl : k = 0 := by omega
      have hd : decide ((0 : Int) < ((0 : Nat) : Int)) = false := decide_eq_false (by omega)
      have hfin : ∀ (W' : World) (V : Value) (x' : List Int) (stW : DrawSt), OwnInts (m + 1) V x' W' → UfSmall x' → CurS W' p cv code stW → w.grownBy W' (some p) →
          ∃ V0 x0, Ending.returned (.agg #[V]) = .returned V0 ∧ UnionFind_own w.heap.size (W'.setCell ⟨m, 0, none⟩ V).heap.size V0 x0 (W'.setCell ⟨m, 0, none⟩ V) ∧ UfSmall x0 ∧ (∃ st', CurS (W'.setCell ⟨m, 0, none⟩ V) p cv code st') ∧ w.grownBy (W'.setCell ⟨m, 0, none⟩ V) (some p) := by
        intro W' V x' stW hO hx hcW hgW
        have hbw : Below w.heap.size W' (W'.setCell ⟨m, 0, none⟩ V) := (Below.refl _ _).setCell (p := ⟨m, 0, none⟩) (by show w.heap.size ≤ m; have := HM.out; omega) _
        have hcw : Chg (fun q => q = m) W' (W'.setCell ⟨m, 0, none⟩ V) := (Chg.refl (fun q => q = m) _).setCell (p := ⟨m, 0, none⟩) rfl _
        have hO2 := hO.chg hcw (fun q hq e => by have := (hO.lt q hq).1; omega)
        exact ⟨_, x', rfl, ⟨_, rfl, (IntsO.of hO2).mono (by have := HM.out; omega) (Nat.le_refl _)⟩, hx, ⟨_, Cur.below hC hcW hbw⟩, grown_of_below hgW hbw⟩
      have HFIN := Lib.hid hfin
      have HSM := Lib.hid (show UfSmall x from ⟨by have := HXL.out; omega, HXB.out⟩)
      clear hfin
      go_wp2_with fail
      refine (l1Once_r p cv code _ _ _ hCr).mono ?_; rintro e w1 ⟨rfl, hC1, hg1⟩
      generalize onceR code st' 10 = b at *
      obtain ⟨bb, st1'⟩ := b
      dsimp only at *
      have y1 := grown_cell hg1 y0 (by omega)
      have m1 := grown_cell hg1 m0 (by omega)
      have mz1 := fun o => grown_frozen hg1 (b := m) (o := o) (by omega) (by omega) (mz o)
      have HO1 := Lib.hid (HO.out.grown hg1 (by omega))
      have HG1 := Lib.hid (HG.out.trans hg1)
      have hz1 := hg1.size
      clear y0 yz m0 mz hCr hg1
      cases bb with
      | false =>
        have HF := Lib.hid (HFIN.out w1 _ x _ HO1.out HSM.out hC1 HG1.out)
        go_wp2
        refine bodyPost_ret (v := .agg #[.slice P3 x.length c3]) (by simp [results, Try.results45, go_sem, m1]) rfl HF.out
      | true =>
        obtain ⟨q, cap, hPq, hq1, hq2, -, -⟩ := HO1.out.form (by have := HXL.out; omega)
        injection hPq with hPe _ hce
        subst hPe hce
        have hS : Holds [(⟨g, 0, none⟩, .slice (some ⟨q, 0, none⟩) x.length c3)] w1 := by
          intro r hr
          simp only [List.mem_cons, List.not_mem_nil, or_false] at hr
          subst hr
          exact y1
        have HSb : Hid (∀ r ∈ [((⟨g, 0, none⟩ : Addr), Value.slice (some ⟨q, 0, none⟩) x.length c3)], r.1.block = g) := by
          intro r hr
          simp only [List.mem_cons, List.not_mem_nil, or_false] at hr
          subst hr
          rfl
        have g0 := Keep.cell (h0 := hS) (a := ⟨g, 0, none⟩) (v := .slice (some ⟨q, 0, none⟩) x.length c3) (by simp)
        go_wp2_with fail
        refine wp_region_planL (C := fun w' => ∃ u : Keep _ w1 hS, w' = u.now) (.still 0 (.still 1 (.still 2 (.still 3 (.still 5 (.move true 4 (.move true 6 (.move true 7 (.still 8 (.move false 9 .done .none)) .none) .none) (.move true 6 (.move true 4 (.move true 7 (.still 8 (.move false 9 .done .none)) .none) .none) .none))))))) (by kernel_rfl) (by kernel_rfl) (by kernel_rfl) (fun _ => ⟨⟨w1.drew, hS⟩, rfl⟩) ?_
        iterate 5
          refine plan_look _ rfl rfl ?_
          go_big_quiet_step (fail)
          refine wpQuiet_nil ?_
        have i1 := hb st1' (N : Int)
        have i2 := i1.2 (by omega)
        have i1 := i1.1
        refine plan_call _ 69 _ _ _ _ _ rfl _ Try.func69 (by kernel_rfl) (by kernel_rfl) ?_ ?_
        · skip
          refine (l1Below_r p cv code st1' (N : Int) _ (Cur.drewN hC1 1)).mono ?_
          rintro _ w5 ⟨rfl, hC5, hg5⟩
          generalize belowR code st1' (N : Int) = b at *
          obtain ⟨bq, st5⟩ := b
          dsimp only at i1 i2 hC5
          obtain ⟨j, hj⟩ : ∃ j : Nat, bq = (j : Int) := ⟨bq.toNat, by omega⟩
          subst hj
          have hjl : j < x.length := by have := HXL.out; omega
          have hg5' : w1.grownBy w5 (some p) := ⟨hg5.os, hg5.tape, hg5.output, hg5.size, hg5.block⟩
          have hK5 := hS.grown hg5' (fun r hr => ⟨by rw [HSb.out r hr]; omega, by rw [HSb.out r hr]; intro e; injection e; omega⟩)
          refine ⟨_, rfl, fun _ => ⟨⟨_, hK5⟩, rfl⟩, ?_⟩
          refine plan_put ?_ (by simp only [Act.put, List.setIfInBounds_toArray, List.set_cons_succ, List.set_cons_zero]; rfl)
          have hz5 := hg5'.size
          have hAl := (Below.refl (g + 1) w5).alloc (by omega) (.cells #[.int .i64 10, .int .i64 (-6), .int .i64 0, .int .i64 (-1), .int .i64 (-41)] 3)
          have hK6 := hK5.below hAl (fun r hr => by rw [HSb.out r hr]; omega)
          refine plan_value (u := .slice (some ⟨w5.heap.size, 0, none⟩) 5 5) (w' := w5.alloc (.cells #[.int .i64 10, .int .i64 (-6), .int .i64 0, .int .i64 (-1), .int .i64 (-41)] 3)) _ rfl rfl rfl (by simp [go_sem]) (fun _ => ⟨⟨_, hK6⟩, rfl⟩) ?_ True.intro
          refine plan_put ?_ (by simp only [Act.put, List.setIfInBounds_toArray, List.set_cons_succ, List.set_cons_zero]; rfl)
          refine plan_call _ 71 _ _ _ _ _ rfl _ Try.func71 (by kernel_rfl) (by kernel_rfl) ?_ True.intro
          refine (l1PickInt_d p cv code _ [10, -6, 0, -1, -41] (-41) 10 (by decide) (by simp) w5 _ (by decide) (by decide) (Cur.lt hC5) _ rfl _ _ rfl _ rfl (Cur.alloc hC5 _)).mono ?_
          rintro _ w6 ⟨z, hz1', hz2', rfl, ⟨st6, hC6⟩, hg6⟩
          have hgd := hg5'.trans ((World.grownBy_alloc w5 _ (some p)).trans hg6)
          have hK7 := hS.grown hgd (fun r hr => ⟨by rw [HSb.out r hr]; omega, by rw [HSb.out r hr]; intro e; injection e; omega⟩)
          refine ⟨_, rfl, fun _ => ⟨⟨_, hK7⟩, rfl⟩, ?_⟩
          refine plan_put ?_ (by simp only [Act.put, List.setIfInBounds_toArray, List.set_cons_succ, List.set_cons_zero]; rfl)
          have hO6 := HO1.out.grown hgd (by omega)
          have d0 := hO6.cell rfl j hjl
          have dz := hO6.frozen rfl j
          have y6 := grown_cell hgd y1 (by omega)
          have m6 := grown_cell hgd m1 (by omega)
          have mz6 := fun o => grown_frozen hgd (b := m) (o := o) (by omega) (by omega) (mz1 o)
          have HS6 := Lib.hid (hO6.set rfl j z)
          have HG6 := Lib.hid (HG1.out.trans hgd)
          have HC6 := Lib.hid hC6
          have hqm : m + 1 ≤ q := hq1
          have hqg : q ≠ g := HNE.out q rfl
          clear hO6 hK7 hK6 hK5 hAl hg6 hgd hC6 hC5 hg5 hg5' y1 m1 mz1 g0
          refine plan_look _ rfl rfl ?_
          go_big_quiet_step (fail)
          refine wpQuiet_nil ?_
          refine plan_skip (w' := w6.setCell ⟨q, j, none⟩ (.int .i64 z)) _ rfl rfl rfl (by simp [go_sem, d0, dz]) (fun e => by cases e) ?_ True.intro
          refine plan_put ?_ (by simp only [Act.put]; rfl)
          refine plan_done ?_
          have hbf : Below w.heap.size w6 (w6.setCell ⟨q, j, none⟩ (.int .i64 z)) := (Below.refl _ _).setCell (p := ⟨q, j, none⟩) (by show w.heap.size ≤ q; have := HM.out; omega) _
          have hmq : m ≠ q := by omega
          have hsm : UfSmall (x.set j z) := by
            refine ⟨by rw [List.length_set]; exact HSM.out.1, fun y hy => ?_⟩
            rcases List.mem_or_eq_of_mem_set hy with h | rfl
            · exact HXB.out y h
            · omega
          have HF := Lib.hid (HFIN.out (w6.setCell ⟨q, j, none⟩ (.int .i64 z)) (.slice (some ⟨q, 0, none⟩) x.length c3) (x.set j z) _ HS6.out hsm (Cur.below hC HC6.out hbf) (grown_of_below HG6.out hbf))
          have y7 : (w6.setCell ⟨q, j, none⟩ (.int .i64 z)).cell? ⟨g, 0, none⟩ = some (.slice (some ⟨q, 0, none⟩) x.length c3) := by simp [go_sem, y6]
          have m7 : (w6.setCell ⟨q, j, none⟩ (.int .i64 z)).cell? ⟨m, 0, none⟩ = some (.slice none 0 0) := by simp [go_sem, m6]
          have mz7 : ∀ o, (w6.setCell ⟨q, j, none⟩ (.int .i64 z)).frozen? ⟨m, o, none⟩ = false := fun o => by simp [mz6]
          generalize w6.setCell ⟨q, j, none⟩ (.int .i64 z) = w8 at *
          go_wp2
          refine bodyPost_ret (v := .agg #[.slice (some ⟨q, 0, none⟩) x.length c3]) (by simp [results, Try.results45, go_sem, m7]) rfl HF.out
        · skip
          have hbd0 : Below w1.heap.size w1 w1.drew := (Below.refl _ _).drew
          have hAl := (Below.refl (g + 1) w1.drew).alloc (by show g + 1 ≤ w1.heap.size; omega) (.cells #[.int .i64 10, .int .i64 (-6), .int .i64 0, .int .i64 (-1), .int .i64 (-41)] 3)
          have hK6 := (show Holds _ w1.drew from hS).below hAl (fun r hr => by rw [HSb.out r hr]; omega)
          refine plan_value (u := .slice (some ⟨w1.drew.heap.size, 0, none⟩) 5 5) (w' := w1.drew.alloc (.cells #[.int .i64 10, .int .i64 (-6), .int .i64 0, .int .i64 (-1), .int .i64 (-41)] 3)) _ rfl rfl rfl (by simp [go_sem]) (fun _ => ⟨⟨_, hK6⟩, rfl⟩) ?_ True.intro
          refine plan_put ?_ (by simp only [Act.put, List.setIfInBounds_toArray, List.set_cons_succ, List.set_cons_zero]; rfl)
          obtain ⟨gb, hgb⟩ : ∃ gb, gb = w1.drew.heap.size := ⟨_, rfl⟩
          have hgb2 : gb = w1.heap.size := hgb
          have HGB := Lib.hid hgb2
          have HCL := Lib.hid (show ∀ i, i < [(10 : Int), -6, 0, -1, -41].length → (w1.drew.alloc (.cells #[.int .i64 10, .int .i64 (-6), .int .i64 0, .int .i64 (-1), .int .i64 (-41)] 3)).cell? ⟨gb, i, none⟩ = some (.int .i64 ([(10 : Int), -6, 0, -1, -41].getD i 0)) from fun i hi => by
            rw [hgb]; exact intCells_new w1.drew 3 [10, -6, 0, -1, -41] i hi)
          have hgA : w1.drew.grownBy (w1.drew.alloc (.cells #[.int .i64 10, .int .i64 (-6), .int .i64 0, .int .i64 (-1), .int .i64 (-41)] 3)) (some p) := World.grownBy_alloc _ _ _
          rw [← hgb]
          have hCA : CurS (w1.drew.alloc (.cells #[.int .i64 10, .int .i64 (-6), .int .i64 0, .int .i64 (-1), .int .i64 (-41)] 3)) p cv code st1' := Cur.alloc (Cur.drewN hC1 1) _
          have HZA := Lib.hid (show (w1.drew.alloc (.cells #[.int .i64 10, .int .i64 (-6), .int .i64 0, .int .i64 (-1), .int .i64 (-41)] 3)).heap.size = gb + 1 by rw [hgb]; simp)
          generalize (w1.drew.alloc (.cells #[.int .i64 10, .int .i64 (-6), .int .i64 0, .int .i64 (-1), .int .i64 (-41)] 3)) = wA at *
          clear hgb hgb2
          refine plan_call _ 69 _ _ _ _ _ rfl _ Try.func69 (by kernel_rfl) (by kernel_rfl) ?_ True.intro
          refine (l1Below_r p cv code st1' (N : Int) _ hCA).mono ?_
          rintro _ w5 ⟨rfl, hC5, hg5⟩
          generalize belowR code st1' (N : Int) = b at *
          obtain ⟨bq, st5⟩ := b
          dsimp only at i1 i2 hC5
          obtain ⟨j, hj⟩ : ∃ j : Nat, bq = (j : Int) := ⟨bq.toNat, by omega⟩
          subst hj
          have hjl : j < x.length := by have := HXL.out; omega
          have hgq0 := hgA.trans hg5
          have hg5' : w1.grownBy w5 (some p) := ⟨hgq0.os, hgq0.tape, hgq0.output, hgq0.size, hgq0.block⟩
          have hK5 := hS.grown hg5' (fun r hr => ⟨by rw [HSb.out r hr]; omega, by rw [HSb.out r hr]; intro e; injection e; omega⟩)
          refine ⟨_, rfl, fun _ => ⟨⟨_, hK5⟩, rfl⟩, ?_⟩
          refine plan_put ?_ (by simp only [Act.put, List.setIfInBounds_toArray, List.set_cons_succ, List.set_cons_zero]; rfl)
          have hz5 := hg5'.size
          have hpb : p ≠ gb := by have := HGB.out; omega
          have hcl5 : ∀ i, i < [(10 : Int), -6, 0, -1, -41].length → w5.cell? ⟨gb, i, none⟩ = some (.int .i64 ([(10 : Int), -6, 0, -1, -41].getD i 0)) := fun i hi => grown_cell hg5 (HCL.out i hi) (by omega)
          refine plan_call _ 71 _ _ _ _ _ rfl _ Try.func71 (by kernel_rfl) (by kernel_rfl) ?_ True.intro
          refine (l1PickInt_g p cv code _ [10, -6, 0, -1, -41] (-41) 10 (by decide) (by simp) (by decide) (by decide) gb (by omega) _ _ rfl _ hcl5 hC5).mono ?_
          rintro _ w6 ⟨z, hz1', hz2', rfl, ⟨st6, hC6⟩, hg6⟩
          have hgd := hg5'.trans hg6
          have hK7 := hS.grown hgd (fun r hr => ⟨by rw [HSb.out r hr]; omega, by rw [HSb.out r hr]; intro e; injection e; omega⟩)
          refine ⟨_, rfl, fun _ => ⟨⟨_, hK7⟩, rfl⟩, ?_⟩
          refine plan_put ?_ (by simp only [Act.put, List.setIfInBounds_toArray, List.set_cons_succ, List.set_cons_zero]; rfl)
          have hO6 := HO1.out.grown hgd (by omega)
          have d0 := hO6.cell rfl j hjl
          have dz := hO6.frozen rfl j
          have y6 := grown_cell hgd y1 (by omega)
          have m6 := grown_cell hgd m1 (by omega)
          have mz6 := fun o => grown_frozen hgd (b := m) (o := o) (by omega) (by omega) (mz1 o)
          have HS6 := Lib.hid (hO6.set rfl j z)
          have HG6 := Lib.hid (HG1.out.trans hgd)
          have HC6 := Lib.hid hC6
          have hqm : m + 1 ≤ q := hq1
          have hqg : q ≠ g := HNE.out q rfl
          clear hO6 hK7 hK6 hK5 hAl hg6 hgd hC6 hC5 hg5 hg5' y1 m1 mz1 g0 hgA hgq0 hCA hcl5 hbd0
          refine plan_look _ rfl rfl ?_
          go_big_quiet_step (fail)
          refine wpQuiet_nil ?_
          refine plan_skip (w' := w6.setCell ⟨q, j, none⟩ (.int .i64 z)) _ rfl rfl rfl (by simp [go_sem, d0, dz]) (fun e => by cases e) ?_ True.intro
          refine plan_put ?_ (by simp only [Act.put]; rfl)
          refine plan_done ?_
          have hbf : Below w.heap.size w6 (w6.setCell ⟨q, j, none⟩ (.int .i64 z)) := (Below.refl _ _).setCell (p := ⟨q, j, none⟩) (by show w.heap.size ≤ q; have := HM.out; omega) _
          have hmq : m ≠ q := by omega
          have hsm : UfSmall (x.set j z) := by
            refine ⟨by rw [List.length_set]; exact HSM.out.1, fun y hy => ?_⟩
            rcases List.mem_or_eq_of_mem_set hy with h | rfl
            · exact HXB.out y h
            · omega
          have HF := Lib.hid (HFIN.out (w6.setCell ⟨q, j, none⟩ (.int .i64 z)) (.slice (some ⟨q, 0, none⟩) x.length c3) (x.set j z) _ HS6.out hsm (Cur.below hC HC6.out hbf) (grown_of_below HG6.out hbf))
          have y7 : (w6.setCell ⟨q, j, none⟩ (.int .i64 z)).cell? ⟨g, 0, none⟩ = some (.slice (some ⟨q, 0, none⟩) x.length c3) := by simp [go_sem, y6]
          have m7 : (w6.setCell ⟨q, j, none⟩ (.int .i64 z)).cell? ⟨m, 0, none⟩ = some (.slice none 0 0) := by simp [go_sem, m6]
          have mz7 : ∀ o, (w6.setCell ⟨q, j, none⟩ (.int .i64 z)).frozen? ⟨m, o, none⟩ = false := fun o => by simp [mz6]
          generalize w6.setCell ⟨q, j, none⟩ (.int .i64 z) = w8 at *
          go_wp2
          refine bodyPost_ret (v := .agg #[.slice (some ⟨q, 0, none⟩) x.length c3]) (by simp [results, Try.results45, go_sem, m7]) rfl HF.out

end Go.Proofs.Ytalijnfbopcmeaa
