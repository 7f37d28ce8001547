/-
  Walks and plain lemmas for the laws of this seat: what single Go functions return, for every argument.
-/
import Derived.Test.YtmecdjincmkofaaGreatDoorMem
import Derived.Test.YtmecdjincmkofaaGreatDoorTyAtom
import Derived.Test.YtmecdjincmkofaaGreatDoorTyDepS
import Derived.Test.YtmecdjincmkofaaGreatDoorAft
import Derived.Test.YtmecdjincmkofaaGreatDoorAtomV
import Derived.Test.YtmecdjincmkofaaGreatDoorDrawI
import Derived.Test.YtmecdjincmkofaaGreatDoorFmtDS
import Derived.Test.YtmecdjincmkofaaGreatDoorParDS
namespace Go.Proofs.YtmecdjincmkofaaGreatDoor
open Go.RowKit

set_option maxHeartbeats 6400000 in
set_option maxRecDepth 100000 in
theorem specParseDeps_any (v : Value) (l : List Rel) (s : ByteArray) (w : World) (hl : RelsAt w w.heap.size v l) (hn : l.length ≤ 1048576) (hs : s.size ≤ 1048576) :
    Calls Tryz.prog 15 #[v, .string s] w fun e w' => ∃ u, e = .returned (.tuple #[u, .bool (ParseDependencies_ok l s)]) ∧ DependencyS_own w.heap.size w'.heap.size u (ParseDependencies_r0 l s) w' ∧ Below w.heap.size w w' := by
  have HLR := Lib.hid hl
  obtain ⟨A0, a0, rfl, hlc, hcm, -⟩ := hl
  have hcut := specCutAt_any 59 s (w.alloc (.cells #[] 37)) hs
  have h59 : (((59 : UInt8).toNat : Nat) : Int) = 59 := rfl
  rw [h59] at hcut
  clear h59
  have hE : Below w.heap.size w (w.alloc (.cells #[] 37)) := below_more (Below.refl _ _) _
  have hEz : (w.alloc (.cells #[] 37)).heap.size = w.heap.size + 1 := by simp
  have HO0 := Lib.hid (DependencySO.empty 37 w)
  go_enter Tryz.func15, Tryz.ntmps15
  go_wp2_with fail
  refine hcut.mono ?_
  rintro e w1 ⟨vW, L, rfl, hL, hOL, hb1⟩
  have hz1 := hb1.size
  have hW1 := hE.trans (hb1.mono hE.size)
  have hLl : L.length = (cutA 59 s.data.toList).length := by have := congrArg List.length hL; simpa [dataOf] using this
  have hLn : L.length ≤ 1048577 := by
    have h1 := cutA_len 59 s.data.toList
    have h2 : s.data.toList.length = s.size := by simp
    omega
  have hLt : ∀ (k : Nat) (h : k < L.length), L[k].size ≤ 1048576 := by
    intro k h
    have h1 := cutA_mem_len 59 s.data.toList L[k].data.toList (by rw [← hL]; exact List.mem_map.2 ⟨_, List.getElem_mem h, rfl⟩)
    have h2 : s.data.toList.length = s.size := by simp
    have h3 : L[k].data.toList.length = L[k].size := by simp
    omega
  have hL0 : 0 < L.length := by rw [hLl]; exact List.length_pos_iff.2 (cutA_ne _ _)
  obtain ⟨A, c, rfl, hc1, hc2⟩ := hOL.form
  unfold maxLen at hc2
  have HO1 := Lib.hid (HO0.out.below hb1 (by rw [hEz]; exact Nat.le_refl _))
  have HL := Lib.hid hL
  have HLl := Lib.hid hLl
  have HLt := Lib.hid hLt
  have HEz := Lib.hid hEz
  have HL0 := Lib.hid hL0
  clear hcut hL hLl hLt hb1 hEz hL0
  rw [HEz.out] at hOL hz1
  go_wp2
  go_loopw [6, 8] (fun o i wr => ∃ (n : Nat) (Xs : List DepX) (xs : List Dep), n ≤ L.length ∧ i = .int .i64 n ∧ Hid (xs.length = n) ∧ Hid (s.data.toList = [] → n = 0) ∧ Hid (toDeps l ((cutA 59 s.data.toList).take n) = some xs) ∧ Hid (DependencyS_wf xs) ∧ DependencySO 37 w.heap.size wr.heap.size o Xs xs wr ∧ OwnStrs (w.heap.size + 1) (.slice A L.length c) L wr ∧ Below w.heap.size w wr) (fun _ i _ => L.length - (intOf i).toNat)
  case atStart => exact ⟨0, [], [], by omega, rfl, Lib.hid rfl, Lib.hid (fun _ => rfl), Lib.hid rfl, Lib.hid (fun i hi => absurd hi (by simp)), HO1.out.mono (Nat.le_refl _) hz1, hOL, hW1⟩
  case round =>
    clear hOL hW1 hz1
    obtain ⟨n, Xs, xs, hnl, rfl, HXl, HN0, HTD, HWF, hO, hOL, hW⟩ := hrel
    have hz := hW.size
    have HO := Lib.hid hO
    obtain ⟨oP, oc, rfl, -, -⟩ := (hO.at_ (Nat.le_refl _)).form
    clear hO
    by_cases hgo : n < L.length ∧ s.data.toList ≠ []
    · obtain ⟨hlt, h0⟩ := hgo
      have hnc : n < (cutA 59 s.data.toList).length := by have := HLl.out; omega
      obtain ⟨b, off, rfl, hb, hc⟩ := StrsAt.elem hOL.at_ n hlt
      have HK : Hid (L[n].data.toList = (cutA 59 s.data.toList)[n]) := Lib.hid (by simp [← HL.out, dataOf])
      have hts := HLt.out n hlt
      have hse : (s.toList == []) = false := by rw [ByteArray.toList_eq, beq_eq_false_iff_ne]; exact h0
      have hsn : (s.toList != []) = true := by unfold bne; rw [hse]; rfl
      have H0 := Lib.hid h0
      have HOL := Lib.hid hOL
      generalize L[n] = t at *
      have hpd := specParseDep_any (.slice A0 l.length a0) l t wr ((HLR.out.below hW (Nat.le_refl _)).more hz) hn hts
      clear h0 hOL
      go_wp2_with fail
      refine hpd.mono ?_
      rintro e w2 ⟨X, rfl, hX, hb2⟩
      have hz2 := hb2.size
      have hW2 := hW.trans (hb2.mono hz)
      obtain ⟨Y1, y1, hY1, -, -⟩ := (hX.1.at_ (Nat.le_refl _)).form
      obtain ⟨Y2, y2, hY2, -, -⟩ := (hX.2.1.at_ (Nat.le_refl _)).form
      have hpw := parseDep_wf l hn t
      have hok := parseDep_ok_is (l := l) (s := t) rfl
      rw [hY1, hY2]
      have HY := Lib.hid (And.intro hY1 hY2)
      have HX := Lib.hid hX
      have HO2 := Lib.hid (HO.out.below hb2 (Nat.le_refl _))
      have HOL2 := Lib.hid (HOL.out.below hb2 (Nat.le_refl _))
      have HPW := Lib.hid hpw
      clear hpd hY1 hY2 hX hpw hc
      cases hq : ParseDependency_ok l t with
      | false =>
        rw [hq] at hok
        have HV := Lib.hid (parseDeps_none (parseDeps_stop H0.out n hnc (by rw [← HK.out]; exact hok.2 rfl)))
        clear hok hq
        generalize ParseDependency_r0 l t = x at *
        have hfin : Below w.heap.size w ((w2.alloc (.cells #[.slice Y1 x.body.length y1, .slice Y2 x.head.length y2, .bool x.egd, .int .i64 x.left, .int .i64 x.right] 37)).alloc (.cells #[] 37)) := (hW2.alloc hW2.size _).alloc (by simp; have := hW2.size; omega) _
        have HF := Lib.hid hfin
        have HDE := Lib.hid (DependencySO.empty 37 (w2.alloc (.cells #[.slice Y1 x.body.length y1, .slice Y2 x.head.length y2, .bool x.egd, .int .i64 x.left, .int .i64 x.right] 37)))
        clear hfin
        go_wp2
        go_ret2
        exact ⟨_, by rw [HV.out.2]; rfl, by rw [HV.out.1]; exact ⟨[], by simpa using HDE.out.mono (by simp; omega) (by simp)⟩, HF.out⟩
      | true =>
        rw [hq] at hok
        have HP := Lib.hid (hok.1 rfl)
        have HTN := Lib.hid (show toDeps l ((cutA 59 s.data.toList).take (n + 1)) = some (xs ++ [ParseDependency_r0 l t]) by
          rw [List.take_succ_eq_append_getElem hnc]
          exact toDeps_snoc _ _ _ _ HTD.out (by rw [← HK.out]; exact HP.out))
        clear hok hq
        generalize ParseDependency_r0 l t = x at *
        obtain ⟨W, hWe⟩ : ∃ W, W = w2.alloc (.cells #[.slice Y1 x.body.length y1, .slice Y2 x.head.length y2, .bool x.egd, .int .i64 x.left, .int .i64 x.right] 37) := ⟨_, rfl⟩
        have hAl : Below w2.heap.size w2 W := by rw [hWe]; exact below_more (Below.refl _ _) _
        have hWs : W.heap.size = w2.heap.size + 1 := by rw [hWe]; simp
        have HOW := Lib.hid ((HO2.out.mono (Nat.le_refl _) hz2).below hAl (Nat.le_refl _))
        have HLW := Lib.hid (HOL2.out.below hAl (Nat.le_refl _))
        have HXW := Lib.hid (HX.out.below hAl (Nat.le_refl _))
        have HBW := Lib.hid (hW2.trans (hAl.mono hW2.size))
        have HWs := Lib.hid hWs
        have hdl := dZip_len (l := xs) (Ps := Xs.map DepX.vals) (by rw [List.length_map, HO2.out.len])
        have hbd1 : ((dZip xs (Xs.map DepX.vals)).length + 1) * 72 ≤ 140737488355328 := by rw [hdl, HXl.out]; omega
        have hbd2 : (dZip xs (Xs.map DepX.vals)).length < 140737488355328 := by rw [hdl, HXl.out]; omega
        have hbd3 : w.heap.size ≤ W.heap.size := HBW.out.size
        clear hdl hAl hWs
        have k0 : W.cell? ⟨w2.heap.size, 0, none⟩ = some (.slice Y1 x.body.length y1) := by rw [hWe]; simp [go_sem]
        have k1 : W.cell? ⟨w2.heap.size, 1, none⟩ = some (.slice Y2 x.head.length y2) := by rw [hWe]; simp [go_sem]
        have k2 : W.cell? ⟨w2.heap.size, 2, none⟩ = some (.bool x.egd) := by rw [hWe]; simp [go_sem]
        have k3 : W.cell? ⟨w2.heap.size, 3, none⟩ = some (.int .i64 x.left) := by rw [hWe]; simp [go_sem]
        have k4 : W.cell? ⟨w2.heap.size, 4, none⟩ = some (.int .i64 x.right) := by rw [hWe]; simp [go_sem]
        go_upto_region 9 with fail
        rw [← hWe]
        clear hWe
        go_wp2_with (at_builtin; refine wp_own_app_one dCells 5 72 dCells_len Tryz.underlying25 infoDep rfl (by decide) HOW.out.row rfl _ _ rfl rfl ⟨.slice Y1 x.body.length y1, .slice Y2 x.head.length y2, x.egd, x.left, x.right⟩ (fun u hu => by simp [dCells] at hu; rcases hu with rfl | rfl | rfl | rfl | rfl <;> rfl) 1 rfl hbd1 hbd2 hbd3 ?_; intro v8 w8 hrow hB8 hg8)
        have hz8 := hg8.size
        have hre : (⟨.slice Y1 x.body.length y1, .slice Y2 x.head.length y2, x.egd, x.left, x.right⟩ : DepC) = depC x X.vals := by
          unfold depC DepX.vals
          rw [HY.out.1, HY.out.2]
        rw [hre] at hrow
        have hFS := DependencySO.snoc (e := 37) (by decide) (by decide) (x := x) (X := X) (C' := w8.heap.size) HOW.out (by have := HWs.out; omega) hrow hg8 (row_inside hrow (Nat.le_refl _)) (HXW.out.mono (by omega) (by have := HWs.out; omega)) (fun i hi q h1 h2 => by
          have h3 := (HX.out.foot q h2).1
          have h4 := ((HO.out.el i (by have := HO.out.len; omega) hi).foot q h1).2
          omega)
        have hkeep : OwnStrs (w.heap.size + 1) (.slice (some ⟨b, off, none⟩) L.length c) L w8 := World.ownsRow.kept HLW.out hg8 (own_ne HLW.out HOW.out.row (by decide))
        have hWf := HBW.out.trans hB8
        have HFS := Lib.hid hFS
        clear hre hrow hFS
        go_roundw
        case rel => exact ⟨n + 1, Xs ++ [X], xs ++ [x], by omega, by go_num, Lib.hid (by rw [List.length_append, HXl.out]; rfl), Lib.hid (fun h => absurd h H0.out), HTN, Lib.hid (deps_wf_snoc HWF.out HPW.out), HFS.out, hkeep, hWf⟩
        case measure => simp [intOf]; omega
    · have HE := Lib.hid (show parseDeps l s.data.toList = if depsOk l xs = true then some xs else none by
        by_cases h0 : s.data.toList = []
        · have e0 := HN0.out h0
          have : xs = [] := List.eq_nil_of_length_eq_zero (by rw [HXl.out, e0])
          rw [this]; exact parseDeps_nil h0
        · have hnl2 : n = L.length := by
            rcases Nat.lt_or_ge n L.length with h | h
            · exact absurd ⟨h, h0⟩ hgo
            · omega
          refine parseDeps_end h0 ?_
          have := HTD.out
          rwa [List.take_of_length_le (by rw [← HLl.out, hnl2]; exact Nat.le_refl _)] at this)
      have hAV := specAreValidDeps_any (.slice A0 l.length a0) l (.slice oP xs.length oc) xs wr ((HLR.out.below hW (Nat.le_refl _)).more hz) hn (HO.out.at_ (Nat.le_refl _)) HWF.out
      have hcond : (decide (n < L.length) && !(s.toList == [])) = false := by
        by_cases h1 : n < L.length
        · have h0 : s.data.toList = [] := Classical.byContradiction fun h => hgo ⟨h1, h⟩
          rw [show (s.toList == []) = true by rw [ByteArray.toList_eq, h0]; rfl]; simp
        · rw [decide_eq_false h1]; rfl
      have hcases : (decide ((n : Int) < (L.length : Int)) = false ∧ decide (n < L.length) = false) ∨ (decide ((n : Int) < (L.length : Int)) = true ∧ decide (n < L.length) = true ∧ (s.toList == []) = true ∧ (s.toList != []) = false) := by
        by_cases h1 : n < L.length
        · have h0 : s.data.toList = [] := Classical.byContradiction fun h => hgo ⟨h1, h⟩
          have e : (s.toList == []) = true := by rw [ByteArray.toList_eq, h0]; rfl
          exact .inr ⟨decide_eq_true (by omega), decide_eq_true h1, e, by unfold bne; rw [e]; rfl⟩
        · exact .inl ⟨decide_eq_false (by omega), decide_eq_false h1⟩
      clear hcond hgo
      cases hok : depsOk l xs with
      | false =>
        have hAV' := hAV
        rw [hok] at hAV'
        have HV := Lib.hid (parseDeps_none (HE.out.trans (if_neg (by rw [hok]; simp))))
        clear hAV hok
        rcases hcases with ⟨h1, h2⟩ | ⟨h1, h2, h3, h4⟩
        all_goals
          go_wp2_with fail
          refine hAV'.mono ?_
          rintro e w9 ⟨rfl, hb9⟩
          have hW9 := hW.trans (hb9.mono hz)
          have HF := Lib.hid (show Below w.heap.size w (w9.alloc (.cells #[] 37)) from hW9.alloc hW9.size _)
          have HDE := Lib.hid (DependencySO.empty 37 w9)
          have HZ9 := Lib.hid hW9.size
          clear hAV'
          go_wp2
          go_ret2
          exact ⟨_, by rw [HV.out.2]; rfl, by rw [HV.out.1]; exact ⟨[], HDE.out.mono HZ9.out (by simp)⟩, HF.out⟩
      | true =>
        have hAV' := hAV
        rw [hok] at hAV'
        have HV := Lib.hid (parseDeps_some (HE.out.trans (if_pos hok)))
        clear hAV hok
        rcases hcases with ⟨h1, h2⟩ | ⟨h1, h2, h3, h4⟩
        all_goals
          go_wp2_with fail
          refine hAV'.mono ?_
          rintro e w9 ⟨rfl, hb9⟩
          have hW9 := hW.trans (hb9.mono hz)
          clear hAV'
          go_wp2
          go_ret2
          exact ⟨_, by rw [HV.out.2]; rfl, by rw [HV.out.1]; exact ⟨Xs, (HO.out.below hb9 (Nat.le_refl _)).mono (Nat.le_refl _) hb9.size⟩, hW9⟩
theorem specParseDependencies_c (v : Value) (l : List Rel) (s : ByteArray) (w : World) (h : RelationS_at w w.heap.size v l) (_ : RelationS_wf l) (hn : RelationS_sz l ≤ 1048576) (hs : s.size ≤ 1048576) :
    Calls Tryz.prog 15 #[v, .string s] w fun e w' => ∃ r0, e = .returned (.tuple #[r0, .bool (ParseDependencies_ok l s)]) ∧ DependencyS_at w' w'.heap.size r0 (ParseDependencies_r0 l s) ∧ Below w.heap.size w w' :=
  (specParseDeps_any v l s w h (by unfold RelationS_sz at hn; omega) hs).mono fun _ _ ⟨u, he, ho, hb⟩ => ⟨u, he, ho.at_ (Nat.le_refl _), hb⟩

/-- two dependencies are the same -/
def depEq (a b : Dep) : Bool := decide (a.body = b.body) && (decide (a.head = b.head) && ((a.egd == b.egd) && ((a.left == b.left) && (a.right == b.right))))
set_option maxHeartbeats 6400000 in
set_option maxRecDepth 100000 in
theorem specEqualDependencies_any (v u : Value) (a b : Dep) (w : World) (h : Dependency_at w w.heap.size v a) (h' : Dependency_at w w.heap.size u b) :
    Calls Tryz.prog 18 #[v, u] w fun e w' => e = .returned (.bool (depEq a b)) ∧ Below w.heap.size w w' := by
  obtain ⟨P, c, Q, d, rfl⟩ := Dependency_form h
  obtain ⟨P', c', Q', d', rfl⟩ := Dependency_form h'
  obtain ⟨V1, V2, hv, hR, hF⟩ := h
  obtain ⟨U1, U2, hu, hR', hF'⟩ := h'
  simp only [Value.agg.injEq, Array.mk.injEq, List.cons.injEq, and_true] at hv hu
  obtain ⟨rfl, rfl⟩ := hv
  obtain ⟨rfl, rfl⟩ := hu
  have hE : Below w.heap.size w ((w.alloc (.cells #[.slice P a.body.length c, .slice Q a.head.length d, .bool a.egd, .int .i64 a.left, .int .i64 a.right] 37)).alloc (.cells #[.slice P' b.body.length c', .slice Q' b.head.length d', .bool b.egd, .int .i64 b.left, .int .i64 b.right] 37)) := below_more (below_more (Below.refl _ _) _) _
  have hEz : w.heap.size + 2 = ((w.alloc (.cells #[.slice P a.body.length c, .slice Q a.head.length d, .bool a.egd, .int .i64 a.left, .int .i64 a.right] 37)).alloc (.cells #[.slice P' b.body.length c', .slice Q' b.head.length d', .bool b.egd, .int .i64 b.left, .int .i64 b.right] 37)).heap.size := by simp
  have A1 := Lib.hid (show ((w.alloc (.cells #[.slice P a.body.length c, .slice Q a.head.length d, .bool a.egd, .int .i64 a.left, .int .i64 a.right] 37)).alloc (.cells #[.slice P' b.body.length c', .slice Q' b.head.length d', .bool b.egd, .int .i64 b.left, .int .i64 b.right] 37)).cell? ⟨w.heap.size, 1, none⟩ = some (.slice Q a.head.length d) by simp [go_sem])
  have B1 := Lib.hid (show ((w.alloc (.cells #[.slice P a.body.length c, .slice Q a.head.length d, .bool a.egd, .int .i64 a.left, .int .i64 a.right] 37)).alloc (.cells #[.slice P' b.body.length c', .slice Q' b.head.length d', .bool b.egd, .int .i64 b.left, .int .i64 b.right] 37)).cell? ⟨w.heap.size + 1, 1, none⟩ = some (.slice Q' b.head.length d') by simp [go_sem])
  have A2 := Lib.hid (show ((w.alloc (.cells #[.slice P a.body.length c, .slice Q a.head.length d, .bool a.egd, .int .i64 a.left, .int .i64 a.right] 37)).alloc (.cells #[.slice P' b.body.length c', .slice Q' b.head.length d', .bool b.egd, .int .i64 b.left, .int .i64 b.right] 37)).cell? ⟨w.heap.size, 2, none⟩ = some (.bool a.egd) by simp [go_sem])
  have B2 := Lib.hid (show ((w.alloc (.cells #[.slice P a.body.length c, .slice Q a.head.length d, .bool a.egd, .int .i64 a.left, .int .i64 a.right] 37)).alloc (.cells #[.slice P' b.body.length c', .slice Q' b.head.length d', .bool b.egd, .int .i64 b.left, .int .i64 b.right] 37)).cell? ⟨w.heap.size + 1, 2, none⟩ = some (.bool b.egd) by simp [go_sem])
  have A3 := Lib.hid (show ((w.alloc (.cells #[.slice P a.body.length c, .slice Q a.head.length d, .bool a.egd, .int .i64 a.left, .int .i64 a.right] 37)).alloc (.cells #[.slice P' b.body.length c', .slice Q' b.head.length d', .bool b.egd, .int .i64 b.left, .int .i64 b.right] 37)).cell? ⟨w.heap.size, 3, none⟩ = some (.int .i64 a.left) by simp [go_sem])
  have B3 := Lib.hid (show ((w.alloc (.cells #[.slice P a.body.length c, .slice Q a.head.length d, .bool a.egd, .int .i64 a.left, .int .i64 a.right] 37)).alloc (.cells #[.slice P' b.body.length c', .slice Q' b.head.length d', .bool b.egd, .int .i64 b.left, .int .i64 b.right] 37)).cell? ⟨w.heap.size + 1, 3, none⟩ = some (.int .i64 b.left) by simp [go_sem])
  have A4 := Lib.hid (show ((w.alloc (.cells #[.slice P a.body.length c, .slice Q a.head.length d, .bool a.egd, .int .i64 a.left, .int .i64 a.right] 37)).alloc (.cells #[.slice P' b.body.length c', .slice Q' b.head.length d', .bool b.egd, .int .i64 b.left, .int .i64 b.right] 37)).cell? ⟨w.heap.size, 4, none⟩ = some (.int .i64 a.right) by simp [go_sem])
  have B4 := Lib.hid (show ((w.alloc (.cells #[.slice P a.body.length c, .slice Q a.head.length d, .bool a.egd, .int .i64 a.left, .int .i64 a.right] 37)).alloc (.cells #[.slice P' b.body.length c', .slice Q' b.head.length d', .bool b.egd, .int .i64 b.left, .int .i64 b.right] 37)).cell? ⟨w.heap.size + 1, 4, none⟩ = some (.int .i64 b.right) by simp [go_sem])
  have c1 := fun bb hq => l9Atoms_at (.slice P a.body.length c) (.slice P' b.body.length c') a.body b.body bb hq ((w.alloc (.cells #[.slice P a.body.length c, .slice Q a.head.length d, .bool a.egd, .int .i64 a.left, .int .i64 a.right] 37)).alloc (.cells #[.slice P' b.body.length c', .slice Q' b.head.length d', .bool b.egd, .int .i64 b.left, .int .i64 b.right] 37)) ((hR.below hE (Nat.le_refl _)).more hE.size) ((hR'.below hE (Nat.le_refl _)).more hE.size)
  have c2 := fun bb hq w' (hb : Below ((w.alloc (.cells #[.slice P a.body.length c, .slice Q a.head.length d, .bool a.egd, .int .i64 a.left, .int .i64 a.right] 37)).alloc (.cells #[.slice P' b.body.length c', .slice Q' b.head.length d', .bool b.egd, .int .i64 b.left, .int .i64 b.right] 37)).heap.size ((w.alloc (.cells #[.slice P a.body.length c, .slice Q a.head.length d, .bool a.egd, .int .i64 a.left, .int .i64 a.right] 37)).alloc (.cells #[.slice P' b.body.length c', .slice Q' b.head.length d', .bool b.egd, .int .i64 b.left, .int .i64 b.right] 37)) w') => l9Atoms_at (.slice Q a.head.length d) (.slice Q' b.head.length d') a.head b.head bb hq w' ((hF.below (hE.trans (hb.mono hE.size)) (Nat.le_refl _)).more (hE.trans (hb.mono hE.size)).size) ((hF'.below (hE.trans (hb.mono hE.size)) (Nat.le_refl _)).more (hE.trans (hb.mono hE.size)).size)
  clear hR hF hR' hF'
  cases q0 : decide (a.body = b.body) with
  | false =>
    replace c1 := c1 false q0
    clear c2
    have HD := Lib.hid (show depEq a b = false by unfold depEq; rw [q0]; rfl)
    clear q0
    go_enter Tryz.func18, Tryz.ntmps18
    go_wp2_with fail
    refine c1.mono ?_
    rintro e w1 ⟨rfl, hb1⟩
    have hz1 := hb1.size
    have hB1 := hE.trans (hb1.mono hE.size)
    go_wp2
    go_ret
    exact ⟨ret_bool HD.out.symm, hB1⟩
  | true =>
    replace c1 := c1 true q0
    cases q1 : decide (a.head = b.head) with
    | false =>
      replace c2 := c2 false q1
      have HD := Lib.hid (show depEq a b = false by unfold depEq; rw [q0, q1]; rfl)
      clear q0 q1
      go_enter Tryz.func18, Tryz.ntmps18
      go_wp2_with fail
      refine c1.mono ?_
      rintro e w1 ⟨rfl, hb1⟩
      have hz1 := hb1.size
      have hB1 := hE.trans (hb1.mono hE.size)
      have a1 := (hb1.cell (p := ⟨w.heap.size, 1, none⟩) (by show w.heap.size < _; omega)).trans A1.out
      have b1 := (hb1.cell (p := ⟨w.heap.size + 1, 1, none⟩) (by show w.heap.size + 1 < _; omega)).trans B1.out
      have a2 := (hb1.cell (p := ⟨w.heap.size, 2, none⟩) (by show w.heap.size < _; omega)).trans A2.out
      have b2 := (hb1.cell (p := ⟨w.heap.size + 1, 2, none⟩) (by show w.heap.size + 1 < _; omega)).trans B2.out
      have a3 := (hb1.cell (p := ⟨w.heap.size, 3, none⟩) (by show w.heap.size < _; omega)).trans A3.out
      have b3 := (hb1.cell (p := ⟨w.heap.size + 1, 3, none⟩) (by show w.heap.size + 1 < _; omega)).trans B3.out
      have a4 := (hb1.cell (p := ⟨w.heap.size, 4, none⟩) (by show w.heap.size < _; omega)).trans A4.out
      have b4 := (hb1.cell (p := ⟨w.heap.size + 1, 4, none⟩) (by show w.heap.size + 1 < _; omega)).trans B4.out
      replace c2 := c2 w1 hb1
      clear c1 A1 A2 A3 A4 B1 B2 B3 B4
      go_wp2_with fail
      refine c2.mono ?_
      rintro e w2 ⟨rfl, hb2⟩
      have hB2 := hB1.trans (hb2.mono hB1.size)
      clear c2
      replace a2 := (hb2.cell (p := ⟨w.heap.size, 2, none⟩) (by show w.heap.size < _; omega)).trans a2
      replace b2 := (hb2.cell (p := ⟨w.heap.size + 1, 2, none⟩) (by show w.heap.size + 1 < _; omega)).trans b2
      replace a3 := (hb2.cell (p := ⟨w.heap.size, 3, none⟩) (by show w.heap.size < _; omega)).trans a3
      replace b3 := (hb2.cell (p := ⟨w.heap.size + 1, 3, none⟩) (by show w.heap.size + 1 < _; omega)).trans b3
      replace a4 := (hb2.cell (p := ⟨w.heap.size, 4, none⟩) (by show w.heap.size < _; omega)).trans a4
      replace b4 := (hb2.cell (p := ⟨w.heap.size + 1, 4, none⟩) (by show w.heap.size + 1 < _; omega)).trans b4
      go_wp2
      go_ret
      exact ⟨ret_bool HD.out.symm, hB2⟩
    | true =>
      replace c2 := c2 true q1
      cases q2 : (a.egd == b.egd) with
      | false =>
        have HD := Lib.hid (show depEq a b = false by unfold depEq; rw [q0, q1, q2]; rfl)
        clear q0 q1
        go_enter Tryz.func18, Tryz.ntmps18
        go_wp2_with fail
        refine c1.mono ?_
        rintro e w1 ⟨rfl, hb1⟩
        have hz1 := hb1.size
        have hB1 := hE.trans (hb1.mono hE.size)
        have a1 := (hb1.cell (p := ⟨w.heap.size, 1, none⟩) (by show w.heap.size < _; omega)).trans A1.out
        have b1 := (hb1.cell (p := ⟨w.heap.size + 1, 1, none⟩) (by show w.heap.size + 1 < _; omega)).trans B1.out
        have a2 := (hb1.cell (p := ⟨w.heap.size, 2, none⟩) (by show w.heap.size < _; omega)).trans A2.out
        have b2 := (hb1.cell (p := ⟨w.heap.size + 1, 2, none⟩) (by show w.heap.size + 1 < _; omega)).trans B2.out
        have a3 := (hb1.cell (p := ⟨w.heap.size, 3, none⟩) (by show w.heap.size < _; omega)).trans A3.out
        have b3 := (hb1.cell (p := ⟨w.heap.size + 1, 3, none⟩) (by show w.heap.size + 1 < _; omega)).trans B3.out
        have a4 := (hb1.cell (p := ⟨w.heap.size, 4, none⟩) (by show w.heap.size < _; omega)).trans A4.out
        have b4 := (hb1.cell (p := ⟨w.heap.size + 1, 4, none⟩) (by show w.heap.size + 1 < _; omega)).trans B4.out
        replace c2 := c2 w1 hb1
        clear c1 A1 A2 A3 A4 B1 B2 B3 B4
        go_wp2_with fail
        refine c2.mono ?_
        rintro e w2 ⟨rfl, hb2⟩
        have hB2 := hB1.trans (hb2.mono hB1.size)
        clear c2
        replace a2 := (hb2.cell (p := ⟨w.heap.size, 2, none⟩) (by show w.heap.size < _; omega)).trans a2
        replace b2 := (hb2.cell (p := ⟨w.heap.size + 1, 2, none⟩) (by show w.heap.size + 1 < _; omega)).trans b2
        replace a3 := (hb2.cell (p := ⟨w.heap.size, 3, none⟩) (by show w.heap.size < _; omega)).trans a3
        replace b3 := (hb2.cell (p := ⟨w.heap.size + 1, 3, none⟩) (by show w.heap.size + 1 < _; omega)).trans b3
        replace a4 := (hb2.cell (p := ⟨w.heap.size, 4, none⟩) (by show w.heap.size < _; omega)).trans a4
        replace b4 := (hb2.cell (p := ⟨w.heap.size + 1, 4, none⟩) (by show w.heap.size + 1 < _; omega)).trans b4
        go_wp2
        go_ret
        exact ⟨ret_bool HD.out.symm, hB2⟩
      | true =>
        cases q3 : (a.left == b.left) with
        | false =>
          have HD := Lib.hid (show depEq a b = false by unfold depEq; rw [q0, q1, q2, q3]; rfl)
          clear q0 q1
          go_enter Tryz.func18, Tryz.ntmps18
          go_wp2_with fail
          refine c1.mono ?_
          rintro e w1 ⟨rfl, hb1⟩
          have hz1 := hb1.size
          have hB1 := hE.trans (hb1.mono hE.size)
          have a1 := (hb1.cell (p := ⟨w.heap.size, 1, none⟩) (by show w.heap.size < _; omega)).trans A1.out
          have b1 := (hb1.cell (p := ⟨w.heap.size + 1, 1, none⟩) (by show w.heap.size + 1 < _; omega)).trans B1.out
          have a2 := (hb1.cell (p := ⟨w.heap.size, 2, none⟩) (by show w.heap.size < _; omega)).trans A2.out
          have b2 := (hb1.cell (p := ⟨w.heap.size + 1, 2, none⟩) (by show w.heap.size + 1 < _; omega)).trans B2.out
          have a3 := (hb1.cell (p := ⟨w.heap.size, 3, none⟩) (by show w.heap.size < _; omega)).trans A3.out
          have b3 := (hb1.cell (p := ⟨w.heap.size + 1, 3, none⟩) (by show w.heap.size + 1 < _; omega)).trans B3.out
          have a4 := (hb1.cell (p := ⟨w.heap.size, 4, none⟩) (by show w.heap.size < _; omega)).trans A4.out
          have b4 := (hb1.cell (p := ⟨w.heap.size + 1, 4, none⟩) (by show w.heap.size + 1 < _; omega)).trans B4.out
          replace c2 := c2 w1 hb1
          clear c1 A1 A2 A3 A4 B1 B2 B3 B4
          go_wp2_with fail
          refine c2.mono ?_
          rintro e w2 ⟨rfl, hb2⟩
          have hB2 := hB1.trans (hb2.mono hB1.size)
          clear c2
          replace a2 := (hb2.cell (p := ⟨w.heap.size, 2, none⟩) (by show w.heap.size < _; omega)).trans a2
          replace b2 := (hb2.cell (p := ⟨w.heap.size + 1, 2, none⟩) (by show w.heap.size + 1 < _; omega)).trans b2
          replace a3 := (hb2.cell (p := ⟨w.heap.size, 3, none⟩) (by show w.heap.size < _; omega)).trans a3
          replace b3 := (hb2.cell (p := ⟨w.heap.size + 1, 3, none⟩) (by show w.heap.size + 1 < _; omega)).trans b3
          replace a4 := (hb2.cell (p := ⟨w.heap.size, 4, none⟩) (by show w.heap.size < _; omega)).trans a4
          replace b4 := (hb2.cell (p := ⟨w.heap.size + 1, 4, none⟩) (by show w.heap.size + 1 < _; omega)).trans b4
          go_wp2
          go_ret
          exact ⟨ret_bool HD.out.symm, hB2⟩
        | true =>
          cases q4 : (a.right == b.right) with
          | false =>
            have HD := Lib.hid (show depEq a b = false by unfold depEq; rw [q0, q1, q2, q3, q4]; rfl)
            clear q0 q1
            go_enter Tryz.func18, Tryz.ntmps18
            go_wp2_with fail
            refine c1.mono ?_
            rintro e w1 ⟨rfl, hb1⟩
            have hz1 := hb1.size
            have hB1 := hE.trans (hb1.mono hE.size)
            have a1 := (hb1.cell (p := ⟨w.heap.size, 1, none⟩) (by show w.heap.size < _; omega)).trans A1.out
            have b1 := (hb1.cell (p := ⟨w.heap.size + 1, 1, none⟩) (by show w.heap.size + 1 < _; omega)).trans B1.out
            have a2 := (hb1.cell (p := ⟨w.heap.size, 2, none⟩) (by show w.heap.size < _; omega)).trans A2.out
            have b2 := (hb1.cell (p := ⟨w.heap.size + 1, 2, none⟩) (by show w.heap.size + 1 < _; omega)).trans B2.out
            have a3 := (hb1.cell (p := ⟨w.heap.size, 3, none⟩) (by show w.heap.size < _; omega)).trans A3.out
            have b3 := (hb1.cell (p := ⟨w.heap.size + 1, 3, none⟩) (by show w.heap.size + 1 < _; omega)).trans B3.out
            have a4 := (hb1.cell (p := ⟨w.heap.size, 4, none⟩) (by show w.heap.size < _; omega)).trans A4.out
            have b4 := (hb1.cell (p := ⟨w.heap.size + 1, 4, none⟩) (by show w.heap.size + 1 < _; omega)).trans B4.out
            replace c2 := c2 w1 hb1
            clear c1 A1 A2 A3 A4 B1 B2 B3 B4
            go_wp2_with fail
            refine c2.mono ?_
            rintro e w2 ⟨rfl, hb2⟩
            have hB2 := hB1.trans (hb2.mono hB1.size)
            clear c2
            replace a2 := (hb2.cell (p := ⟨w.heap.size, 2, none⟩) (by show w.heap.size < _; omega)).trans a2
            replace b2 := (hb2.cell (p := ⟨w.heap.size + 1, 2, none⟩) (by show w.heap.size + 1 < _; omega)).trans b2
            replace a3 := (hb2.cell (p := ⟨w.heap.size, 3, none⟩) (by show w.heap.size < _; omega)).trans a3
            replace b3 := (hb2.cell (p := ⟨w.heap.size + 1, 3, none⟩) (by show w.heap.size + 1 < _; omega)).trans b3
            replace a4 := (hb2.cell (p := ⟨w.heap.size, 4, none⟩) (by show w.heap.size < _; omega)).trans a4
            replace b4 := (hb2.cell (p := ⟨w.heap.size + 1, 4, none⟩) (by show w.heap.size + 1 < _; omega)).trans b4
            go_wp2
            go_ret
            exact ⟨ret_bool HD.out.symm, hB2⟩
          | true =>
            have HD := Lib.hid (show depEq a b = true by unfold depEq; rw [q0, q1, q2, q3, q4]; rfl)
            clear q0 q1
            go_enter Tryz.func18, Tryz.ntmps18
            go_wp2_with fail
            refine c1.mono ?_
            rintro e w1 ⟨rfl, hb1⟩
            have hz1 := hb1.size
            have hB1 := hE.trans (hb1.mono hE.size)
            have a1 := (hb1.cell (p := ⟨w.heap.size, 1, none⟩) (by show w.heap.size < _; omega)).trans A1.out
            have b1 := (hb1.cell (p := ⟨w.heap.size + 1, 1, none⟩) (by show w.heap.size + 1 < _; omega)).trans B1.out
            have a2 := (hb1.cell (p := ⟨w.heap.size, 2, none⟩) (by show w.heap.size < _; omega)).trans A2.out
            have b2 := (hb1.cell (p := ⟨w.heap.size + 1, 2, none⟩) (by show w.heap.size + 1 < _; omega)).trans B2.out
            have a3 := (hb1.cell (p := ⟨w.heap.size, 3, none⟩) (by show w.heap.size < _; omega)).trans A3.out
            have b3 := (hb1.cell (p := ⟨w.heap.size + 1, 3, none⟩) (by show w.heap.size + 1 < _; omega)).trans B3.out
            have a4 := (hb1.cell (p := ⟨w.heap.size, 4, none⟩) (by show w.heap.size < _; omega)).trans A4.out
            have b4 := (hb1.cell (p := ⟨w.heap.size + 1, 4, none⟩) (by show w.heap.size + 1 < _; omega)).trans B4.out
            replace c2 := c2 w1 hb1
            clear c1 A1 A2 A3 A4 B1 B2 B3 B4
            go_wp2_with fail
            refine c2.mono ?_
            rintro e w2 ⟨rfl, hb2⟩
            have hB2 := hB1.trans (hb2.mono hB1.size)
            clear c2
            replace a2 := (hb2.cell (p := ⟨w.heap.size, 2, none⟩) (by show w.heap.size < _; omega)).trans a2
            replace b2 := (hb2.cell (p := ⟨w.heap.size + 1, 2, none⟩) (by show w.heap.size + 1 < _; omega)).trans b2
            replace a3 := (hb2.cell (p := ⟨w.heap.size, 3, none⟩) (by show w.heap.size < _; omega)).trans a3
            replace b3 := (hb2.cell (p := ⟨w.heap.size + 1, 3, none⟩) (by show w.heap.size + 1 < _; omega)).trans b3
            replace a4 := (hb2.cell (p := ⟨w.heap.size, 4, none⟩) (by show w.heap.size < _; omega)).trans a4
            replace b4 := (hb2.cell (p := ⟨w.heap.size + 1, 4, none⟩) (by show w.heap.size + 1 < _; omega)).trans b4
            go_wp2
            go_ret
            exact ⟨ret_bool HD.out.symm, hB2⟩
theorem specEqualDependencies_c (v : Value) (a : Dep) (u : Value) (b : Dep) (w : World) (h : Dependency_at w w.heap.size v a) (_ : Dependency_wf a) (_ : Dependency_sz a ≤ 1048576) (h' : Dependency_at w w.heap.size u b) (_ : Dependency_wf b) (_ : Dependency_sz b ≤ 1048576) :
    Calls Tryz.prog 18 #[v, u] w fun e w' => e = .returned (.bool (depEq a b)) ∧ Below w.heap.size w w' := specEqualDependencies_any v u a b w h h'

end Go.Proofs.YtmecdjincmkofaaGreatDoor
