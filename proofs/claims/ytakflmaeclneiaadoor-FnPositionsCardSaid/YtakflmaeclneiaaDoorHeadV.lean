/-
  Walks and plain lemmas for the laws of this seat: what single Go functions return, for every argument.
-/
import Derived.Test.YtakflmaeclneiaaDoorInts
import Derived.Test.YtakflmaeclneiaaDoorTyAtom
import Derived.Test.YtakflmaeclneiaaDoorVarsM
import Derived.Test.YtakflmaeclneiaaDoorAtomV
import Derived.Test.YtakflmaeclneiaaDoorPlcS
import Derived.Test.YtakflmaeclneiaaDoorDepsV
namespace Go.Proofs.YtakflmaeclneiaaDoor
open Go.RowKit

set_option maxHeartbeats 3200000 in
set_option maxRecDepth 100000 in
theorem specFrontierVariables_any (v : Value) (x : Dep) (w : World) (h : Dependency_at w w.heap.size v x) (hn : Dependency_sz x ≤ 1048576) :
    Calls Tryd.prog 43 #[v] w fun e w' => ∃ u, e = .returned u ∧ OwnInts w.heap.size u (headVars x true) w' ∧ Below w.heap.size w w' := by
  obtain ⟨P, c, Q, d, rfl⟩ := Dependency_form h
  obtain ⟨V1, V2, hv, hR, hF⟩ := h
  simp only [Value.agg.injEq, Array.mk.injEq, List.cons.injEq, and_true] at hv
  obtain ⟨rfl, rfl⟩ := hv
  have hn1 : AtomS_sz x.body ≤ 1048576 := by unfold Dependency_sz at hn; omega
  have hn2 : AtomS_sz x.head ≤ 1048576 := by unfold Dependency_sz at hn; omega
  have hE : Below w.heap.size w ((w.alloc (.cells #[.slice P x.body.length c, .slice Q x.head.length d, .bool x.egd, .int .i64 x.left, .int .i64 x.right] 75)).alloc (.cells #[] 3)) := below_more (below_more (Below.refl _ _) _) _
  have hEz : w.heap.size + 2 = ((w.alloc (.cells #[.slice P x.body.length c, .slice Q x.head.length d, .bool x.egd, .int .i64 x.left, .int .i64 x.right] 75)).alloc (.cells #[] 3)).heap.size := by simp
  have K1 := Lib.hid (show ((w.alloc (.cells #[.slice P x.body.length c, .slice Q x.head.length d, .bool x.egd, .int .i64 x.left, .int .i64 x.right] 75)).alloc (.cells #[] 3)).cell? ⟨w.heap.size, 1, none⟩ = some (.slice Q x.head.length d) by simp [go_sem])
  have HO0 := Lib.hid (show OwnInts w.heap.size (.slice (some ⟨w.heap.size + 1, 0, none⟩) 0 0) [] ((w.alloc (.cells #[.slice P x.body.length c, .slice Q x.head.length d, .bool x.egd, .int .i64 x.left, .int .i64 x.right] 75)).alloc (.cells #[] 3)) by
    have := OwnInts.empty (w.alloc (.cells #[.slice P x.body.length c, .slice Q x.head.length d, .bool x.egd, .int .i64 x.left, .int .i64 x.right] 75)) w.heap.size (by simp)
    simpa using this)
  have c1 := specVariables_any _ x.body ((w.alloc (.cells #[.slice P x.body.length c, .slice Q x.head.length d, .bool x.egd, .int .i64 x.left, .int .i64 x.right] 75)).alloc (.cells #[] 3)) ((hR.below hE (Nat.le_refl _)).more hE.size) hn1
  have HF := Lib.hid hF
  have hvl := varsOf_len x.head
  have hlb : (varsOf x.head).length ≤ 1048576 := by unfold AtomS_sz at hn2; omega
  clear hR hF hvl
  have HEz := Lib.hid hEz
  clear hEz
  go_enter Tryd.func43, Tryd.ntmps43
  go_wp2_with fail
  refine c1.mono ?_
  rintro e w1 ⟨u1, rfl, ho1, hb1⟩
  have hz1 := hb1.size
  have hW1 := hE.trans (hb1.mono hE.size)
  have f1 := (hb1.cell (p := ⟨w.heap.size, 1, none⟩) (by have := HEz.out; show w.heap.size < _; omega)).trans K1.out
  have c2 := specVariables_any _ x.head w1 ((HF.out.below hW1 (Nat.le_refl _)).more hW1.size) hn2
  have HT1 := Lib.hid (show Two w.heap.size (.slice (some ⟨w.heap.size + 1, 0, none⟩) 0 0) u1 [] (varsOf x.body) w1 from ⟨HO0.out.below hb1 (Nat.le_refl _), ho1.mono (by have := HEz.out; omega), fun g hg hq => by
    have h1 := (ho1.lt g hq).1
    have h2 := HEz.out
    have hg' : w.heap.size + 1 = g := by simpa [Value.ownBlock] using hg
    omega⟩)
  obtain ⟨A1, d1, rfl, -⟩ := ho1.at_
  clear c1 ho1 K1
  go_wp2_with fail
  refine c2.mono ?_
  rintro e w2 ⟨u2, rfl, ho2, hb2⟩
  have hz2 := hb2.size
  have hW2 := hW1.trans (hb2.mono hW1.size)
  have HT2 := Lib.hid (show Two w.heap.size (.slice (some ⟨w.heap.size + 1, 0, none⟩) 0 0) u2 [] (varsOf x.head) w2 from ⟨HT1.out.1.below hb2 (Nat.le_refl _), ho2.mono (by have := HEz.out; omega), fun g hg hq => by
    have h1 := (ho2.lt g hq).1
    have h2 := HEz.out
    have hg' : w.heap.size + 1 = g := by simpa [Value.ownBlock] using hg
    omega⟩)
  have HT3 := Lib.hid (HT1.out.below hb2 (Nat.le_refl _))
  obtain ⟨A2, d2, rfl, -, hd2, -⟩ := ho2.at_
  unfold maxLen at hd2
  clear c2 f1 ho2 HT1
  go_wp2
  go_loopw [3, 6] (fun o i wr => ∃ (k : Nat) (S : List Int), k ≤ (varsOf x.head).length ∧ i = .int .i64 k ∧ Hid (S = ((varsOf x.head).take k).filter fun t => decide (t ∈ varsOf x.body) == true) ∧ Hid (Two w.heap.size o (.slice A1 (varsOf x.body).length d1) S (varsOf x.body) wr) ∧ Hid (Two w.heap.size o (.slice A2 (varsOf x.head).length d2) S (varsOf x.head) wr) ∧ Below w.heap.size w wr) (fun _ i _ => (varsOf x.head).length - (intOf i).toNat)
  case atStart => exact ⟨0, [], by omega, rfl, Lib.hid (by simp), Lib.hid HT3.out, Lib.hid HT2.out, hW2⟩
  case round =>
    obtain ⟨k, S, hk, rfl, HS, HT1, HT2, hW⟩ := hrel
    have hz := hW.size
    by_cases hlt : k < (varsOf x.head).length
    · have HA2 := Lib.hid HT2.out.2.1.at_
      obtain ⟨b, off, rfl, hb, d0⟩ := IntsAt.elem HA2.out k hlt
      have HN := Lib.hid (filter_take (fun t => decide (t ∈ varsOf x.body) == true) (varsOf x.head) k hlt)
      have hSl : S.length ≤ 1048576 := by
        have h1 := HS.out
        have h2 := List.length_filter_le (fun t => decide (t ∈ varsOf x.body) == true) ((varsOf x.head).take k)
        rw [← h1, List.length_take] at h2
        omega
      have hhas := fun (q : Bool) (hq : decide ((varsOf x.head)[k] ∈ varsOf x.body) = q) => specHas_at (.slice A1 (varsOf x.body).length d1) (varsOf x.body) (varsOf x.head)[k] q hq wr HT1.out.2.1.at_
      have HAL := Lib.hid (show Below wr.heap.size wr (wr.alloc (.cells #[.int .i64 (varsOf x.head)[k]] 3)) from below_more (Below.refl _ _) _)
      have HONE := Lib.hid (show IntsAt (wr.alloc (.cells #[.int .i64 (varsOf x.head)[k]] 3)) (wr.alloc (.cells #[.int .i64 (varsOf x.head)[k]] 3)).heap.size (.slice (some ⟨wr.heap.size, 0, none⟩) [(varsOf x.head)[k]].length 1) [(varsOf x.head)[k]] from (OwnInts.one wr wr.heap.size (varsOf x.head)[k] (Nat.le_refl _)).at_)
      have HT1' := Lib.hid (HT1.out.below HAL.out (Nat.le_refl _))
      have HT2' := Lib.hid (HT2.out.below HAL.out (Nat.le_refl _))
      have hzz : w.heap.size ≤ (wr.alloc (.cells #[.int .i64 (varsOf x.head)[k]] 3)).heap.size := by simp; omega
      have HZZ := Lib.hid hzz
      clear hzz
      have hbW : b < wr.heap.size := hb
      cases hp : decide ((varsOf x.head)[k] ∈ varsOf x.body) with
      | true =>
        have HA := Lib.hid (show S ++ [(varsOf x.head)[k]] = ((varsOf x.head).take (k + 1)).filter (fun t => decide (t ∈ varsOf x.body) == true) by rw [HN.out, HS.out]; congr 1; rw [hp]; rfl)
        replace hhas := hhas true hp
        clear hp
        generalize (varsOf x.head)[k] = y at *
        have d0' := (HAL.out.cell (p := ⟨b, off + k, none⟩) hbW).trans d0
        go_wp2_with (first | (go_at_call 55; refine hhas.mono ?_; rintro e w3 ⟨rfl, rfl⟩) | (at_builtin; refine ints_apps (r := [y]) HT1'.out.1 rfl _ _ rfl rfl (some ⟨wr.heap.size, 0, none⟩) 1 1 rfl rfl HONE.out (fun h => by cases h) (by simp; omega) HZZ.out ?_; intro v5 w5 hO5 hB5 hG5 hN5))
        go_roundw
        case rel => exact ⟨k + 1, S ++ [y], by omega, by go_num, HA, Lib.hid (HT1'.out.first hO5 hG5 hN5), Lib.hid (HT2'.out.first hO5 hG5 hN5), hW.trans ((HAL.out.mono hz).trans hB5)⟩
        case measure => simp [intOf]; omega
      | false =>
        have HA := Lib.hid (show S = ((varsOf x.head).take (k + 1)).filter (fun t => decide (t ∈ varsOf x.body) == true) by rw [HN.out, HS.out]; simp [hp])
        replace hhas := hhas false hp
        clear hp
        generalize (varsOf x.head)[k] = y at *
        go_wp2_with (go_at_call 55; refine hhas.mono ?_; rintro e w3 ⟨rfl, rfl⟩)
        go_roundw
        case rel => exact ⟨k + 1, S, by omega, by go_num, HA, HT1, HT2, hW⟩
        case measure => simp [intOf]; omega
    · obtain rfl : k = (varsOf x.head).length := by omega
      have HA := Lib.hid (show S = headVars x true by rw [HS.out, List.take_of_length_le (Nat.le_refl _)]; rfl)
      go_wp2
      go_ret
      exact ⟨_, rfl, by rw [← HA.out]; exact HT1.out.1, hW⟩
theorem specFrontierVariables_c (v : Value) (x : Dep) (w : World) (h : Dependency_at w w.heap.size v x) (_ : Dependency_wf x) (hn : Dependency_sz x ≤ 1048576) :
    Calls Tryd.prog 43 #[v] w fun e w' => ∃ u, e = .returned u ∧ IntS_at w' w'.heap.size u (FrontierVariables_r0 x) ∧ Below w.heap.size w w' :=
  (specFrontierVariables_any v x w h hn).mono fun _ _ ⟨u, he, ho, hb⟩ => ⟨u, he, ho.at_, hb⟩

set_option maxHeartbeats 3200000 in
set_option maxRecDepth 100000 in
theorem specExistentialVariables_any (v : Value) (x : Dep) (w : World) (h : Dependency_at w w.heap.size v x) (hn : Dependency_sz x ≤ 1048576) :
    Calls Tryd.prog 44 #[v] w fun e w' => ∃ u, e = .returned u ∧ OwnInts w.heap.size u (headVars x false) w' ∧ Below w.heap.size w w' := by
  obtain ⟨P, c, Q, d, rfl⟩ := Dependency_form h
  obtain ⟨V1, V2, hv, hR, hF⟩ := h
  simp only [Value.agg.injEq, Array.mk.injEq, List.cons.injEq, and_true] at hv
  obtain ⟨rfl, rfl⟩ := hv
  have hn1 : AtomS_sz x.body ≤ 1048576 := by unfold Dependency_sz at hn; omega
  have hn2 : AtomS_sz x.head ≤ 1048576 := by unfold Dependency_sz at hn; omega
  have hE : Below w.heap.size w ((w.alloc (.cells #[.slice P x.body.length c, .slice Q x.head.length d, .bool x.egd, .int .i64 x.left, .int .i64 x.right] 75)).alloc (.cells #[] 3)) := below_more (below_more (Below.refl _ _) _) _
  have hEz : w.heap.size + 2 = ((w.alloc (.cells #[.slice P x.body.length c, .slice Q x.head.length d, .bool x.egd, .int .i64 x.left, .int .i64 x.right] 75)).alloc (.cells #[] 3)).heap.size := by simp
  have K1 := Lib.hid (show ((w.alloc (.cells #[.slice P x.body.length c, .slice Q x.head.length d, .bool x.egd, .int .i64 x.left, .int .i64 x.right] 75)).alloc (.cells #[] 3)).cell? ⟨w.heap.size, 1, none⟩ = some (.slice Q x.head.length d) by simp [go_sem])
  have HO0 := Lib.hid (show OwnInts w.heap.size (.slice (some ⟨w.heap.size + 1, 0, none⟩) 0 0) [] ((w.alloc (.cells #[.slice P x.body.length c, .slice Q x.head.length d, .bool x.egd, .int .i64 x.left, .int .i64 x.right] 75)).alloc (.cells #[] 3)) by
    have := OwnInts.empty (w.alloc (.cells #[.slice P x.body.length c, .slice Q x.head.length d, .bool x.egd, .int .i64 x.left, .int .i64 x.right] 75)) w.heap.size (by simp)
    simpa using this)
  have c1 := specVariables_any _ x.body ((w.alloc (.cells #[.slice P x.body.length c, .slice Q x.head.length d, .bool x.egd, .int .i64 x.left, .int .i64 x.right] 75)).alloc (.cells #[] 3)) ((hR.below hE (Nat.le_refl _)).more hE.size) hn1
  have HF := Lib.hid hF
  have hvl := varsOf_len x.head
  have hlb : (varsOf x.head).length ≤ 1048576 := by unfold AtomS_sz at hn2; omega
  clear hR hF hvl
  have HEz := Lib.hid hEz
  clear hEz
  go_enter Tryd.func44, Tryd.ntmps44
  go_wp2_with fail
  refine c1.mono ?_
  rintro e w1 ⟨u1, rfl, ho1, hb1⟩
  have hz1 := hb1.size
  have hW1 := hE.trans (hb1.mono hE.size)
  have f1 := (hb1.cell (p := ⟨w.heap.size, 1, none⟩) (by have := HEz.out; show w.heap.size < _; omega)).trans K1.out
  have c2 := specVariables_any _ x.head w1 ((HF.out.below hW1 (Nat.le_refl _)).more hW1.size) hn2
  have HT1 := Lib.hid (show Two w.heap.size (.slice (some ⟨w.heap.size + 1, 0, none⟩) 0 0) u1 [] (varsOf x.body) w1 from ⟨HO0.out.below hb1 (Nat.le_refl _), ho1.mono (by have := HEz.out; omega), fun g hg hq => by
    have h1 := (ho1.lt g hq).1
    have h2 := HEz.out
    have hg' : w.heap.size + 1 = g := by simpa [Value.ownBlock] using hg
    omega⟩)
  obtain ⟨A1, d1, rfl, -⟩ := ho1.at_
  clear c1 ho1 K1
  go_wp2_with fail
  refine c2.mono ?_
  rintro e w2 ⟨u2, rfl, ho2, hb2⟩
  have hz2 := hb2.size
  have hW2 := hW1.trans (hb2.mono hW1.size)
  have HT2 := Lib.hid (show Two w.heap.size (.slice (some ⟨w.heap.size + 1, 0, none⟩) 0 0) u2 [] (varsOf x.head) w2 from ⟨HT1.out.1.below hb2 (Nat.le_refl _), ho2.mono (by have := HEz.out; omega), fun g hg hq => by
    have h1 := (ho2.lt g hq).1
    have h2 := HEz.out
    have hg' : w.heap.size + 1 = g := by simpa [Value.ownBlock] using hg
    omega⟩)
  have HT3 := Lib.hid (HT1.out.below hb2 (Nat.le_refl _))
  obtain ⟨A2, d2, rfl, -, hd2, -⟩ := ho2.at_
  unfold maxLen at hd2
  clear c2 f1 ho2 HT1
  go_wp2
  go_loopw [3, 6] (fun o i wr => ∃ (k : Nat) (S : List Int), k ≤ (varsOf x.head).length ∧ i = .int .i64 k ∧ Hid (S = ((varsOf x.head).take k).filter fun t => decide (t ∈ varsOf x.body) == false) ∧ Hid (Two w.heap.size o (.slice A1 (varsOf x.body).length d1) S (varsOf x.body) wr) ∧ Hid (Two w.heap.size o (.slice A2 (varsOf x.head).length d2) S (varsOf x.head) wr) ∧ Below w.heap.size w wr) (fun _ i _ => (varsOf x.head).length - (intOf i).toNat)
  case atStart => exact ⟨0, [], by omega, rfl, Lib.hid (by simp), Lib.hid HT3.out, Lib.hid HT2.out, hW2⟩
  case round =>
    obtain ⟨k, S, hk, rfl, HS, HT1, HT2, hW⟩ := hrel
    have hz := hW.size
    by_cases hlt : k < (varsOf x.head).length
    · have HA2 := Lib.hid HT2.out.2.1.at_
      obtain ⟨b, off, rfl, hb, d0⟩ := IntsAt.elem HA2.out k hlt
      have HN := Lib.hid (filter_take (fun t => decide (t ∈ varsOf x.body) == false) (varsOf x.head) k hlt)
      have hSl : S.length ≤ 1048576 := by
        have h1 := HS.out
        have h2 := List.length_filter_le (fun t => decide (t ∈ varsOf x.body) == false) ((varsOf x.head).take k)
        rw [← h1, List.length_take] at h2
        omega
      have hhas := fun (q : Bool) (hq : decide ((varsOf x.head)[k] ∈ varsOf x.body) = q) => specHas_at (.slice A1 (varsOf x.body).length d1) (varsOf x.body) (varsOf x.head)[k] q hq wr HT1.out.2.1.at_
      have HAL := Lib.hid (show Below wr.heap.size wr (wr.alloc (.cells #[.int .i64 (varsOf x.head)[k]] 3)) from below_more (Below.refl _ _) _)
      have HONE := Lib.hid (show IntsAt (wr.alloc (.cells #[.int .i64 (varsOf x.head)[k]] 3)) (wr.alloc (.cells #[.int .i64 (varsOf x.head)[k]] 3)).heap.size (.slice (some ⟨wr.heap.size, 0, none⟩) [(varsOf x.head)[k]].length 1) [(varsOf x.head)[k]] from (OwnInts.one wr wr.heap.size (varsOf x.head)[k] (Nat.le_refl _)).at_)
      have HT1' := Lib.hid (HT1.out.below HAL.out (Nat.le_refl _))
      have HT2' := Lib.hid (HT2.out.below HAL.out (Nat.le_refl _))
      have hzz : w.heap.size ≤ (wr.alloc (.cells #[.int .i64 (varsOf x.head)[k]] 3)).heap.size := by simp; omega
      have HZZ := Lib.hid hzz
      clear hzz
      have hbW : b < wr.heap.size := hb
      cases hp : decide ((varsOf x.head)[k] ∈ varsOf x.body) with
      | false =>
        have HA := Lib.hid (show S ++ [(varsOf x.head)[k]] = ((varsOf x.head).take (k + 1)).filter (fun t => decide (t ∈ varsOf x.body) == false) by rw [HN.out, HS.out]; congr 1; rw [hp]; rfl)
        replace hhas := hhas false hp
        clear hp
        generalize (varsOf x.head)[k] = y at *
        have d0' := (HAL.out.cell (p := ⟨b, off + k, none⟩) hbW).trans d0
        go_wp2_with (first | (go_at_call 55; refine hhas.mono ?_; rintro e w3 ⟨rfl, rfl⟩) | (at_builtin; refine ints_apps (r := [y]) HT1'.out.1 rfl _ _ rfl rfl (some ⟨wr.heap.size, 0, none⟩) 1 1 rfl rfl HONE.out (fun h => by cases h) (by simp; omega) HZZ.out ?_; intro v5 w5 hO5 hB5 hG5 hN5))
        go_roundw
        case rel => exact ⟨k + 1, S ++ [y], by omega, by go_num, HA, Lib.hid (HT1'.out.first hO5 hG5 hN5), Lib.hid (HT2'.out.first hO5 hG5 hN5), hW.trans ((HAL.out.mono hz).trans hB5)⟩
        case measure => simp [intOf]; omega
      | true =>
        have HA := Lib.hid (show S = ((varsOf x.head).take (k + 1)).filter (fun t => decide (t ∈ varsOf x.body) == false) by rw [HN.out, HS.out]; simp [hp])
        replace hhas := hhas true hp
        clear hp
        generalize (varsOf x.head)[k] = y at *
        go_wp2_with (go_at_call 55; refine hhas.mono ?_; rintro e w3 ⟨rfl, rfl⟩)
        go_roundw
        case rel => exact ⟨k + 1, S, by omega, by go_num, HA, HT1, HT2, hW⟩
        case measure => simp [intOf]; omega
    · obtain rfl : k = (varsOf x.head).length := by omega
      have HA := Lib.hid (show S = headVars x false by rw [HS.out, List.take_of_length_le (Nat.le_refl _)]; rfl)
      go_wp2
      go_ret
      exact ⟨_, rfl, by rw [← HA.out]; exact HT1.out.1, hW⟩
theorem specExistentialVariables_c (v : Value) (x : Dep) (w : World) (h : Dependency_at w w.heap.size v x) (_ : Dependency_wf x) (hn : Dependency_sz x ≤ 1048576) :
    Calls Tryd.prog 44 #[v] w fun e w' => ∃ u, e = .returned u ∧ IntS_at w' w'.heap.size u (ExistentialVariables_r0 x) ∧ Below w.heap.size w w' :=
  (specExistentialVariables_any v x w h hn).mono fun _ _ ⟨u, he, ho, hb⟩ => ⟨u, he, ho.at_, hb⟩

end Go.Proofs.YtakflmaeclneiaaDoor
