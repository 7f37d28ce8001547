/-
  Walks and plain lemmas for the laws of this seat: what single Go functions return, for every argument.
-/
import Derived.Test.YtakflmaeclneiaaDoorDraw
import Derived.Test.YtakflmaeclneiaaDoorTyDepS
import Derived.Test.YtakflmaeclneiaaDoorDrawD9
import Derived.Test.YtakflmaeclneiaaDoorVarsM
import Derived.Test.YtakflmaeclneiaaDoorAft
import Derived.Test.YtakflmaeclneiaaDoorEdge
import Derived.Test.YtakflmaeclneiaaDoorDrawW9
import Derived.Test.YtakflmaeclneiaaDoorGraphS
namespace Go.Proofs.YtakflmaeclneiaaDoor
open Go.RowKit

theorem atms_wf {l : List Atm} (h : ∀ a ∈ l, AtmSmall a) : AtomS_wf l := by
  intro i hi
  have ha := h _ (List.getElem_mem hi)
  refine ⟨by have := ha.1; omega, fun j hj => ?_⟩
  have := ha.2.2 _ (List.getElem_mem hj)
  omega

theorem deps_wf {l : List Dep} (h : ∀ y ∈ l, DepSmall 3 y) : DependencyS_wf l := by
  intro i hi
  have hd := h _ (List.getElem_mem hi)
  exact ⟨atms_wf hd.1.2.2, atms_wf hd.2.1.2, by have := hd.2.2; omega, by have := hd.2.2; omega⟩
theorem deps_sz {l : List Dep} (hl : l.length ≤ 6) (h : ∀ y ∈ l, DepSmall 3 y) : DependencyS_sz l ≤ 1048576 := by
  have key : ∀ (m : List Dep), (∀ y ∈ m, DepSmall 3 y) → depsLen m ≤ m.length * 100 := by
    intro m
    induction m with
    | nil => intro _; exact Nat.zero_le _
    | cons d t ih =>
      intro hm
      have h0 := ih (fun y hy => hm y (List.mem_cons_of_mem _ hy))
      have hd := hm d List.mem_cons_self
      have h1 := AtmSmall.sz hd.1.2.2
      have h2 := AtmSmall.sz hd.2.1.2
      have h3 := hd.1.2.1
      have h4 := hd.2.1.1
      have h5 : Dependency_sz d ≤ 100 := by unfold Dependency_sz; omega
      simp only [depsLen, List.length_cons]
      omega
  have := key l h
  unfold DependencyS_sz
  omega

/-- edges drawn are small -/
def EdgsSmall (E : List Edg) : Prop := E.length ≤ 7560 ∧ ∀ e ∈ E, (-1 ≤ e.src ∧ e.src ≤ 30) ∧ (-1 ≤ e.dst ∧ e.dst ≤ 30)
theorem graph_small (l : List Rel) (ds : List Dep) : EdgsSmall (PositionGraph_r0 l ds) :=
  ⟨graph_len l ds, fun e he => by have := graph_bd l ds e he; omega⟩
theorem edgs_grown {B : Nat} {v : Value} {l : List Edg} {w w' : World} {p : Nat} (h : OwnEdgs B v l w) (hg : w.grownBy w' (some p)) (hp : p < B) : OwnEdgs B v l w' :=
  World.ownsRow.kept h hg (by
    cases hv : v.ownBlock with
    | none => exact Or.inl rfl
    | some k => right; intro he; injection he with he; have := (World.ownsRow.lt h k hv).1; omega)
/-- a store elsewhere leaves a draw's state; the code's block is older -/
theorem cur_set {w0 w : World} {p0 p : Nat} {cv : Value} {code : List UInt8} {st : DrawSt} (h0 : CodeAt w0 p0 cv code) (hC : CurS w p cv code st) (g j : Nat) (u : Value) (hg : p < g) (hg0 : w0.heap.size ≤ g) : CurS (w.setCell ⟨g, j, none⟩ u) p cv code st := by
  have hC : Cur w p cv code st.1 st.2 := hC
  have hc : ∀ b o, b ≠ g → (w.setCell ⟨g, j, none⟩ u).cell? ⟨b, o, none⟩ = w.cell? ⟨b, o, none⟩ := fun b o hb => by
    show World.cell? _ _ = _
    unfold World.cell?
    rw [heap_setCell_other w ⟨g, j, none⟩ b u hb]
  refine (show Cur _ _ _ _ _ _ from ⟨(hc p 0 (by omega)).trans hC.c0, (hc p 1 (by omega)).trans hC.c1, (hc p 2 (by omega)).trans hC.c2, fun o => (World.frozen?_setCell ..).trans (hC.fr o), ?_, hC.ile, hC.clen, hC.hlo, hC.hhi⟩)
  rcases hC.txt with h | ⟨b, off, cap, h1, h2, h3⟩
  · exact Or.inl h
  · refine Or.inr ⟨b, off, cap, h1, h2, fun i hi => ?_⟩
    have hlt : b < w0.heap.size := by
      rcases h0 with ⟨_, _, h4, h5⟩ | ⟨b', off', cap', h4, _, h6⟩
      · rw [h5] at hi; simp at hi
      · rw [h1] at h4; injection h4 with h4; injection h4 with h4; injection h4 with h4; subst h4
        exact World.block_lt_of_cell? w0 _ (h6 i hi)
    exact (hc b _ (by omega)).trans (h3 i hi)
set_option maxHeartbeats 3200000 in
set_option maxRecDepth 100000 in
theorem drawReach_c (cv : Value) (code : List UInt8) (w : World) (hc : CodeAt w w.heap.size cv code) (hlen : code.length ≤ 1048576) :
    Calls Tryd.prog 8 #[cv] w fun e w' => ∃ n V E a b, e = .returned (.tuple #[.int .i64 n, V, .int .i64 a, .int .i64 b]) ∧ EdgsAt w' w'.heap.size V E ∧ EdgsSmall E ∧ (-1 ≤ n ∧ n ≤ 31) ∧ (-1 ≤ a ∧ a ≤ 7) ∧ (0 ≤ b ∧ b ≤ 8) ∧ Below w.heap.size w w' := by
  have hb := belowR_bd code
  go_enter Tryd.func8, Tryd.ntmps8
  go_wp2_with fail
  refine (l1New_c cv code _ hc hlen).mono ?_; rintro e w1 ⟨rfl, hb1, hC1⟩
  have hz1 := hb1.size
  have hp1 := Cur.lt hC1
  go_wp2_with fail
  refine (drawDeps_c cv code w1 (hc.later hb1) hlen).mono ?_; rintro e w2 ⟨v, u, xs, rfl, ⟨B, hB, hR⟩, hD, hl, hs, hb2⟩
  have hC2 : CurS w2 w.heap.size cv code (st0 code) := Cur.below hC1 hC1 hb2
  have hz2 := hb2.size
  have HB2 := Lib.hid (hb1.trans (hb2.mono hz1))
  have hgr := specPositionGraph_any v u sigs5 xs w2 hR.at_ (by decide) hD (deps_wf hs) (deps_sz hl hs)
  clear hC1 hb1 hb2 hR hB
  go_wp2_with fail
  refine hgr.mono ?_; rintro e w3 ⟨V, rfl, hO, hb3⟩
  have hC3 : CurS w3 w.heap.size cv code (st0 code) := Cur.below hC2 hC2 hb3
  have hp2 := Cur.lt hC2
  have hz3 := hb3.size
  have HB3 := Lib.hid (HB2.out.trans (hb3.mono HB2.out.size))
  have hsm := graph_small sigs5 xs
  obtain ⟨P, c, rfl, hc1, hc2, -⟩ := hO.at_
  unfold maxLen at hc2
  have HO := Lib.hid hO
  clear hgr hO hb3 hC2 HB2
  generalize PositionGraph_r0 sigs5 xs = G at *
  have hpB : w.heap.size < w2.heap.size := by omega
  by_cases h0 : 0 < G.length
  · have hd : decide (G.length > 0) = true := decide_eq_true h0
    go_wp2_with fail
    refine (l1Once_r _ cv code _ _ _ hC3).mono ?_; rintro e w4 ⟨rfl, hC4, hg4⟩
    generalize onceR code (st0 code) 10 = o at *
    obtain ⟨ob, st4⟩ := o
    dsimp only at *
    have hz4 := hg4.size
    have HO4 := Lib.hid (edgs_grown HO.out hg4 hpB)
    have HB4 := Lib.hid (below_of_draw HB3.out hg4)
    clear HO HB3 hg4 hC3
    cases ob
    · obtain ⟨w5, h5⟩ : ∃ w5, w5 = w4 := ⟨_, rfl⟩
      rw [← h5] at HO4 HB4 hC4 ⊢
      clear h5
      have HO5 := HO4
      have HB5 := HB4
      have hC5 := hC4
      have HSM := Lib.hid hsm
      clear HO4 HB4 hC4
      go_wp2_with fail
      refine (l1PickInt_d w.heap.size cv code _ [8, 8, 8, 4, 31, -1] (-1) 31 (by decide) (by simp) w5 _ (by decide) (by decide) (Cur.lt hC5) _ rfl _ _ rfl _ rfl (Cur.alloc hC5 _)).mono ?_
      rintro e w6 ⟨n, hn1, hn2, rfl, ⟨st6, hC6⟩, hg6⟩
      have hA5 := (Below.refl w5.heap.size w5).alloc (Nat.le_refl _) (.cells (([8, 8, 8, 4, 31, -1] : List Int).map (Value.int .i64)).toArray 3)
      have HO6 := Lib.hid (edgs_grown (HO5.out.below hA5 (Nat.le_refl _)) hg6 hpB)
      have HB6 := Lib.hid (below_of_draw (HB5.out.trans (hA5.mono HB5.out.size)) hg6)
      clear HO5 HB5 hC5 hA5 hg6
      go_wp2_with fail
      have a1 := hb st6 9
      have a2 := a1.2 (by omega)
      have a1 := a1.1
      refine (l1Below_r _ cv code _ _ _ hC6).mono ?_; rintro e w7 ⟨rfl, hC7, hg7⟩
      generalize belowR code st6 9 = q1 at *
      have HO7 := Lib.hid (edgs_grown HO6.out hg7 hpB)
      have HB7 := Lib.hid (below_of_draw HB6.out hg7)
      clear HO6 HB6 hC6 hg7
      go_wp2_with fail
      have b1 := hb q1.2 9
      have b2 := b1.2 (by omega)
      have b1 := b1.1
      refine (l1Below_r _ cv code _ _ _ hC7).mono ?_; rintro e w8 ⟨rfl, hC8, hg8⟩
      generalize belowR code q1.2 9 = q2 at *
      have HO8 := Lib.hid (edgs_grown HO7.out hg8 hpB)
      have HB8 := Lib.hid (below_of_draw HB7.out hg8)
      clear HO7 HB7 hC7 hC8 hg8
      generalize q1.1 = x at *
      generalize q2.1 = y at *
      go_wp2
      refine bodyPost_ret (v := .tuple #[.int .i64 n, .slice P G.length c, .int .i64 (x - 1), .int .i64 y]) (by simp [results, Tryd.results8, go_sem]) rfl ?_
      exact ⟨n, _, G, x - 1, y, rfl, HO8.out.at_, HSM.out, by omega, by omega, by omega, HB8.out⟩
    · cases G with
      | nil => simp at h0
      | cons g0 Gt =>
        obtain ⟨gb, hgb, hP⟩ : ∃ gb, w2.heap.size ≤ gb ∧ P = some ⟨gb, 0, none⟩ := by
          obtain ⟨g, cap, hv, h1, h2, -, -⟩ := OwnEdgs.form HO4.out h0
          injection hv with hv _ _
          exact ⟨g, h1, hv⟩
        subst hP
        go_wp2_with fail
        refine (l1PickInt_d w.heap.size cv code _ [-1, 8, 30] (-1) 30 (by decide) (by simp) w4 _ (by decide) (by decide) (Cur.lt hC4) _ rfl _ _ rfl _ rfl (Cur.alloc hC4 _)).mono ?_
        rintro e w5a ⟨z, hzl, hzh, rfl, ⟨st5, hC5a⟩, hg5⟩
        have hA4 := (Below.refl w4.heap.size w4).alloc (Nat.le_refl _) (.cells (([-1, 8, 30] : List Int).map (Value.int .i64)).toArray 3)
        have HO5a := Lib.hid (edgs_grown (HO4.out.below hA4 (Nat.le_refl _)) hg5 hpB)
        have HB5a := Lib.hid (below_of_draw (HB4.out.trans (hA4.mono HB4.out.size)) hg5)
        have HSM := Lib.hid (show EdgsSmall (⟨g0.src, z, g0.spec⟩ :: Gt) from ⟨hsm.1, fun e he => by
          rcases List.mem_cons.1 he with rfl | he
          · have := hsm.2 g0 (by simp); exact ⟨this.1, by omega, by omega⟩
          · exact hsm.2 e (by simp [he])⟩)
        have hcell := (HO5a.out.cells rfl 0 (by simp)).2.1
        have hfz := HO5a.out.frozen rfl 1
        simp only [Nat.zero_mul, Nat.zero_add, List.getElem_cons_zero] at hcell
        have HO5b := Lib.hid (HO5a.out.setDst rfl z)
        have hC5b : CurS (w5a.setCell ⟨gb, 1, none⟩ (.int .i64 z)) w.heap.size cv code st5 := cur_set hc hC5a gb 1 _ (by omega) (by omega)
        have HB5b := Lib.hid (HB5a.out.setCell (p := ⟨gb, 1, none⟩) (by show w.heap.size ≤ gb; omega) (.int .i64 z))
        clear HO4 HB4 hC4 hA4 hg5 HO5a HB5a hC5a hsm
        go_upto_region 6 with fail
        clear hcell hfz
        obtain ⟨w5, h5⟩ : ∃ w5, w5 = w5a.setCell ⟨gb, 1, none⟩ (.int .i64 z) := ⟨_, rfl⟩
        rw [← h5] at HO5b HB5b hC5b ⊢
        clear h5
        have HO5 := HO5b
        have HB5 := HB5b
        have hC5 := hC5b
        clear HO5b HB5b hC5b
        go_wp2_with fail
        refine (l1PickInt_d w.heap.size cv code _ [8, 8, 8, 4, 31, -1] (-1) 31 (by decide) (by simp) w5 _ (by decide) (by decide) (Cur.lt hC5) _ rfl _ _ rfl _ rfl (Cur.alloc hC5 _)).mono ?_
        rintro e w6 ⟨n, hn1, hn2, rfl, ⟨st6, hC6⟩, hg6⟩
        have hA5 := (Below.refl w5.heap.size w5).alloc (Nat.le_refl _) (.cells (([8, 8, 8, 4, 31, -1] : List Int).map (Value.int .i64)).toArray 3)
        have HO6 := Lib.hid (edgs_grown (HO5.out.below hA5 (Nat.le_refl _)) hg6 hpB)
        have HB6 := Lib.hid (below_of_draw (HB5.out.trans (hA5.mono HB5.out.size)) hg6)
        clear HO5 HB5 hC5 hA5 hg6
        go_wp2_with fail
        have a1 := hb st6 9
        have a2 := a1.2 (by omega)
        have a1 := a1.1
        refine (l1Below_r _ cv code _ _ _ hC6).mono ?_; rintro e w7 ⟨rfl, hC7, hg7⟩
        generalize belowR code st6 9 = q1 at *
        have HO7 := Lib.hid (edgs_grown HO6.out hg7 hpB)
        have HB7 := Lib.hid (below_of_draw HB6.out hg7)
        clear HO6 HB6 hC6 hg7
        go_wp2_with fail
        have b1 := hb q1.2 9
        have b2 := b1.2 (by omega)
        have b1 := b1.1
        refine (l1Below_r _ cv code _ _ _ hC7).mono ?_; rintro e w8 ⟨rfl, hC8, hg8⟩
        generalize belowR code q1.2 9 = q2 at *
        have HO8 := Lib.hid (edgs_grown HO7.out hg8 hpB)
        have HB8 := Lib.hid (below_of_draw HB7.out hg8)
        clear HO7 HB7 hC7 hC8 hg8
        generalize q1.1 = x at *
        generalize q2.1 = y at *
        go_wp2
        refine bodyPost_ret (v := .tuple #[.int .i64 n, .slice (some ⟨gb, 0, none⟩) (g0 :: Gt).length c, .int .i64 (x - 1), .int .i64 y]) (by simp [results, Tryd.results8, go_sem]) rfl ?_
        exact ⟨n, _, (⟨g0.src, z, g0.spec⟩ :: Gt), x - 1, y, rfl, HO8.out.at_, HSM.out, by omega, by omega, by omega, HB8.out⟩
  · have hd : decide (G.length > 0) = false := decide_eq_false h0
    obtain ⟨w5, h5⟩ : ∃ w5, w5 = w3 := ⟨_, rfl⟩
    rw [← h5] at HO HB3 hC3 ⊢
    clear h5
    have HO5 := HO
    have HB5 := HB3
    have hC5 := hC3
    have HSM := Lib.hid hsm
    clear HO HB3 hC3
    go_wp2_with fail
    refine (l1PickInt_d w.heap.size cv code _ [8, 8, 8, 4, 31, -1] (-1) 31 (by decide) (by simp) w5 _ (by decide) (by decide) (Cur.lt hC5) _ rfl _ _ rfl _ rfl (Cur.alloc hC5 _)).mono ?_
    rintro e w6 ⟨n, hn1, hn2, rfl, ⟨st6, hC6⟩, hg6⟩
    have hA5 := (Below.refl w5.heap.size w5).alloc (Nat.le_refl _) (.cells (([8, 8, 8, 4, 31, -1] : List Int).map (Value.int .i64)).toArray 3)
    have HO6 := Lib.hid (edgs_grown (HO5.out.below hA5 (Nat.le_refl _)) hg6 hpB)
    have HB6 := Lib.hid (below_of_draw (HB5.out.trans (hA5.mono HB5.out.size)) hg6)
    clear HO5 HB5 hC5 hA5 hg6
    go_wp2_with fail
    have a1 := hb st6 9
    have a2 := a1.2 (by omega)
    have a1 := a1.1
    refine (l1Below_r _ cv code _ _ _ hC6).mono ?_; rintro e w7 ⟨rfl, hC7, hg7⟩
    generalize belowR code st6 9 = q1 at *
    have HO7 := Lib.hid (edgs_grown HO6.out hg7 hpB)
    have HB7 := Lib.hid (below_of_draw HB6.out hg7)
    clear HO6 HB6 hC6 hg7
    go_wp2_with fail
    have b1 := hb q1.2 9
    have b2 := b1.2 (by omega)
    have b1 := b1.1
    refine (l1Below_r _ cv code _ _ _ hC7).mono ?_; rintro e w8 ⟨rfl, hC8, hg8⟩
    generalize belowR code q1.2 9 = q2 at *
    have HO8 := Lib.hid (edgs_grown HO7.out hg8 hpB)
    have HB8 := Lib.hid (below_of_draw HB7.out hg8)
    clear HO7 HB7 hC7 hC8 hg8
    generalize q1.1 = x at *
    generalize q2.1 = y at *
    go_wp2
    refine bodyPost_ret (v := .tuple #[.int .i64 n, .slice P G.length c, .int .i64 (x - 1), .int .i64 y]) (by simp [results, Tryd.results8, go_sem]) rfl ?_
    exact ⟨n, _, G, x - 1, y, rfl, HO8.out.at_, HSM.out, by omega, by omega, by omega, HB8.out⟩

end Go.Proofs.YtakflmaeclneiaaDoor
