/-
  Walks and plain lemmas for the laws of this seat: what single Go functions return, for every argument.
-/
import Derived.Test.YtakflmaeclneiaaDoorDrawR
import Derived.Test.YtakflmaeclneiaaDoorDrawV9
namespace Go.Proofs.YtakflmaeclneiaaDoor
open Go.RowKit

theorem DependencySO.two_at {e : TypeId} (he : e ≠ 3) (he2 : e ≠ 86) {B C D : Nat} {v v' : Value} {Xs : List DepX} {X1 X2 : DepX} {l : List Dep} {x1 x2 : Dep} {w w' : World} (h : DependencySO e B C v Xs l w) (hC : C ≤ D)
    (hrow : w'.ownsRow B e 5 v' (dZip l (Xs.map DepX.vals) ++ [depC x1 X1.vals, depC x2 X2.vals]).length ((dZip l (Xs.map DepX.vals) ++ [depC x1 X1.vals, depC x2 X2.vals]).flatMap dCells)) (hg : w.grownBy w' v.ownBlock) (hin : Value.inside D v')
    (hX1 : DepOwn B D X1 x1 w) (hX2 : DepOwn B D X2 x2 w) : DependencyS_at w' D v' (l ++ [x1, x2]) := by
  have keep : ∀ {U : DepX} {us : Dep}, DepOwn B D U us w → DepOwn B D U us w' := fun hU => hU.kept hg (fun q hq e1 => dFoot_ne he he2 h.row hU q e1 hq)
  have hl : (Xs.map DepX.vals).length = l.length := by rw [List.length_map, h.len]
  have hz : dZip (l ++ [x1, x2]) ((Xs ++ [X1, X2]).map DepX.vals) = dZip l (Xs.map DepX.vals) ++ [depC x1 X1.vals, depC x2 X2.vals] := by
    rw [List.map_append]; unfold dZip; rw [List.zipWith_append hl.symm]; rfl
  refine ⟨(Xs ++ [X1, X2]).map DepX.vals, by simp [h.len], ?_, fun i h1 h2 => ?_⟩
  · rw [hz]; exact SliceAt.inside (SliceAt.of_own hrow) hin
  · rw [List.getElem_map]
    rw [List.length_append] at h1
    by_cases hi : i < l.length
    · have hiv : i < Xs.length := by rw [h.len]; exact hi
      rw [List.getElem_append_left hi, List.getElem_append_left hiv]
      have := keep ((h.el i hi hiv).mono (Nat.le_refl _) hC)
      exact ⟨this.1.at_ (Nat.le_refl _), this.2.1.at_ (Nat.le_refl _)⟩
    · have hix : Xs.length ≤ i := by have := h.len; omega
      rw [List.getElem_append_right (Nat.not_lt.1 hi), List.getElem_append_right hix]
      have h3 : i - Xs.length = i - l.length := by rw [h.len]
      have h4 : i - l.length < 2 := by simp at h1; omega
      simp only [h3]
      obtain ⟨k, hk⟩ : ∃ k, k = i - l.length := ⟨_, rfl⟩
      simp only [← hk]
      rw [← hk] at h4
      rcases (show k = 0 ∨ k = 1 by omega) with rfl | rfl
      · exact ⟨(keep hX1).1.at_ (Nat.le_refl _), (keep hX1).2.1.at_ (Nat.le_refl _)⟩
      · exact ⟨(keep hX2).1.at_ (Nat.le_refl _), (keep hX2).2.1.at_ (Nat.le_refl _)⟩
set_option maxHeartbeats 3200000 in
set_option maxRecDepth 100000 in
theorem drawDeps_c (cv : Value) (code : List UInt8) (w : World) (hc : CodeAt w w.heap.size cv code) (hlen : code.length ≤ 1048576) :
    Calls Tryd.prog 25 #[cv] w fun e w' => ∃ v u xs, e = .returned (.tuple #[v, u]) ∧ (∃ B, w.heap.size < B ∧ OwnRels B v sigs5 w') ∧ DependencyS_at w' w'.heap.size u xs ∧ xs.length ≤ 6 ∧ (∀ x ∈ xs, DepSmall 3 x) ∧ Below w.heap.size w w' := by
  go_enter Tryd.func25, Tryd.ntmps25
  go_wp2_with fail
  refine (l1New_c cv code _ hc hlen).mono ?_; rintro e w1 ⟨rfl, hb1, hC1⟩
  go_wp2_with fail
  refine (l9Rules_c _ cv code _ _ hC1).mono ?_; rintro e w2 ⟨u, Xs, xs, rfl, hO, hl, hs, ⟨st2, hC2⟩, hg2⟩
  have hz1 := hb1.size
  have hz2 := hg2.size
  have hp1 := Cur.lt hC1
  obtain ⟨oP, oc, rfl, -, -⟩ := (hO.at_ (Nat.le_refl _)).form
  have HO := Lib.hid hO
  have HS := Lib.hid hs
  have HB2 := Lib.hid (below_of_draw hb1 hg2)
  clear hO hs hb1 hg2
  go_wp2_with fail
  refine (l1Once_r _ cv code _ _ _ hC2).mono ?_; rintro e w3 ⟨rfl, hC3, hg3⟩
  generalize onceR code st2 4 = o at *
  obtain ⟨ob, st3⟩ := o
  dsimp only at *
  have hz3 := hg3.size
  have HO3 := Lib.hid (HO.out.chg (chg_of_grown hg3) (.inr (by omega)))
  have HB3 := Lib.hid (below_of_draw HB2.out hg3)
  clear HO HB2 hg3 hC2
  cases ob
  · go_wp2_with fail
    refine (l3Sigs_c _).mono ?_; rintro e w4 ⟨rfl, hw4⟩
    have hO4 := sigs5_own w3
    rw [← hw4] at hO4
    have hb4 : Below w3.heap.size w3 w4 := by rw [hw4]; exact (Below.refl _ _).alloc (Nat.le_refl _) _
    clear hw4
    go_wp2_with fail
    refine bodyPost_ret (v := .tuple #[.slice (some ⟨w3.heap.size, 0, none⟩) 5 5, .slice oP xs.length oc]) (by simp [results, Tryd.results25, go_sem]) rfl ?_
    exact ⟨_, _, xs, rfl, ⟨_, by omega, hO4⟩, ((HO3.out.at_ (Nat.le_trans (Nat.le_refl _) hz3)).later hb4), by omega, HS.out, HB3.out.trans (hb4.mono HB3.out.size)⟩
  · go_wp2_with fail
    refine (l9Any_c _ cv code _ _ hC3).mono ?_; rintro e w4 ⟨X1, x1, rfl, hX1, hs1, ⟨st4, hC4⟩, hg4⟩
    have hz4 := hg4.size
    obtain ⟨Y1, y1, Y2, y2, hY1, hY2⟩ := dep9_vals hX1
    unfold DVal9
    rw [hY1, hY2]
    have HO4 := Lib.hid (HO3.out.chg (chg_of_grown hg4) (.inr (by omega)))
    have HB4 := Lib.hid (below_of_draw HB3.out hg4)
    have HX1 := Lib.hid hX1
    have HY1 := Lib.hid (And.intro hY1 hY2)
    have HS1 := Lib.hid hs1
    clear HO3 HB3 hg4 hC3 hX1 hY1 hY2 hs1
    go_wp2_with fail
    refine (l9Any_c _ cv code _ _ hC4).mono ?_; rintro e w5 ⟨X2, x2, rfl, hX2, hs2, ⟨st5, hC5⟩, hg5⟩
    have hz5 := hg5.size
    obtain ⟨Z1, z1, Z2, z2, hZ1, hZ2⟩ := dep9_vals hX2
    unfold DVal9
    rw [hZ1, hZ2]
    have HO5 := Lib.hid (HO4.out.chg (chg_of_grown hg5) (.inr (by omega)))
    have HX15 := Lib.hid (HX1.out.kept hg5 (fun q hq e => by have := (HX1.out.foot q hq).1; have e := Option.some.inj e; omega))
    have HB5 := Lib.hid (below_of_draw HB4.out hg5)
    have HX2 := Lib.hid hX2
    have HY2 := Lib.hid (And.intro hZ1 hZ2)
    have HS2 := Lib.hid hs2
    clear HO4 HB4 hg5 hC4 hX2 hZ1 hZ2 hs2 HX1
    obtain ⟨c1, hc1⟩ : ∃ c : DepC, c = ⟨.slice Y1 x1.body.length y1, .slice Y2 x1.head.length y2, x1.egd, x1.left, x1.right⟩ := ⟨_, rfl⟩
    obtain ⟨c2, hc2⟩ : ∃ c : DepC, c = ⟨.slice Z1 x2.body.length z1, .slice Z2 x2.head.length z2, x2.egd, x2.left, x2.right⟩ := ⟨_, rfl⟩
    obtain ⟨E, hE⟩ : ∃ E, E = w5.alloc (.cells #[.slice Y1 x1.body.length y1, .slice Y2 x1.head.length y2, .bool x1.egd, .int .i64 x1.left, .int .i64 x1.right, .slice Z1 x2.body.length z1, .slice Z2 x2.head.length z2, .bool x2.egd, .int .i64 x2.left, .int .i64 x2.right] 75) := ⟨_, rfl⟩
    have hr : ∀ j u, ([c1, c2].flatMap dCells)[j]? = some u → E.cell? ⟨w5.heap.size, 0 + j, none⟩ = some u := by
      intro j u hu
      rw [Nat.zero_add, hE, box_cell]
      simpa [dCells, hc1, hc2] using hu
    have hone : ∀ x ∈ [c1, c2], ∀ u ∈ dCells x, u.oneCell' = true := by
      intro x hx
      simp only [List.mem_cons, List.not_mem_nil, or_false] at hx
      rcases hx with rfl | rfl
      · rw [hc1]; exact dep9_one
      · rw [hc2]; exact dep9_one
    have hd1 : depC x1 X1.vals = c1 := by unfold depC DepX.vals; rw [HY1.out.1, HY1.out.2, hc1]
    have hd2 : depC x2 X2.vals = c2 := by unfold depC DepX.vals; rw [HY2.out.1, HY2.out.2, hc2]
    have hEB : Below w5.heap.size w5 E := by rw [hE]; exact (Below.refl _ _).alloc (Nat.le_refl _) _
    have hEz : E.heap.size = w5.heap.size + 1 := by rw [hE]; simp
    have HO6 := Lib.hid (HO5.out.below hEB (by omega))
    have HX16 := Lib.hid (HX15.out.below hEB (by omega))
    have HX26 := Lib.hid (HX2.out.below hEB (by omega))
    have HB6 := Lib.hid (HB5.out.trans (hEB.mono HB5.out.size))
    have hdl := dZip_len (l := xs) (Ps := Xs.map DepX.vals) (by rw [List.length_map, HO6.out.len])
    have hbd1 : ((dZip xs (Xs.map DepX.vals)).length + [c1, c2].length) * 72 ≤ 140737488355328 := by rw [hdl]; simp; omega
    have hbd2 : (dZip xs (Xs.map DepX.vals)).length + [c1, c2].length < 140737488355328 := by rw [hdl]; simp; omega
    have hbd3 : w1.heap.size ≤ E.heap.size := by omega
    have HR := Lib.hid hr
    have HN := Lib.hid hone
    have HD := Lib.hid (And.intro hd1 hd2)
    have HE := Lib.hid hE
    clear hdl hr hone hd1 hd2 hEB HO5 HX15 HX2 HB5 hE hc1 hc2
    go_wp2_with (at_builtin; rw [← HE.out]; refine wp_own_appsM dCells 5 72 dCells_len HN.out Tryd.underlying50 infoDep rfl (by decide) HO6.out.row rfl _ _ rfl rfl w5.heap.size 0 2 2 rfl rfl HR.out hbd1 hbd2 hbd3 ?_; intro v8 w8 hrow hB8 hg8 _)
    have hz8 := hB8.size
    have HXX := Lib.hid hrow
    have hrow2 := HXX.out
    rw [← HD.out.1, ← HD.out.2] at hrow2
    have hA := DependencySO.two_at (e := 75) (by decide) (by decide) (D := w8.heap.size) (HO6.out.mono (Nat.le_refl _) (Nat.le_refl _)) (by omega) hrow2 hg8 (row_inside hrow2 (Nat.le_refl _)) (HX16.out.mono (by omega) (by omega)) (HX26.out.mono (by omega) (by omega))
    have HA := Lib.hid hA
    have HB8 := Lib.hid (HB6.out.trans (hB8.mono hz1))
    clear hrow hrow2 HXX hA HO6 HX16 HX26 HB6 hB8 hg8 HR HN
    obtain ⟨vP, vc, rfl, -, -⟩ := HA.out.form
    go_wp2_with fail
    refine (l3Sigs_c _).mono ?_; rintro e w9 ⟨rfl, hw9⟩
    have hO9 := sigs5_own w8
    rw [← hw9] at hO9
    have hb9 : Below w8.heap.size w8 w9 := by rw [hw9]; exact (Below.refl _ _).alloc (Nat.le_refl _) _
    clear hw9
    go_wp2_with fail
    refine bodyPost_ret (v := .tuple #[.slice (some ⟨w8.heap.size, 0, none⟩) 5 5, .slice vP (xs ++ [x1, x2]).length vc]) (by simp [results, Tryd.results25, go_sem]) rfl ?_
    refine ⟨_, _, xs ++ [x1, x2], rfl, ⟨_, by omega, hO9⟩, HA.out.later hb9, by simp; omega, fun x hx => ?_, HB8.out.trans (hb9.mono HB8.out.size)⟩
    rcases List.mem_append.1 hx with h | h
    · exact HS.out x h
    · simp only [List.mem_cons, List.not_mem_nil, or_false] at h
      rcases h with rfl | rfl
      · exact HS1.out
      · exact HS2.out

end Go.Proofs.YtakflmaeclneiaaDoor
