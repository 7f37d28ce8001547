/-
  Walks and plain lemmas for the laws of this seat: what single Go functions return, for every argument.
-/
import Derived.Test.YtmecdjincmkofaaGreatDoorBase
import Derived.Test.YtmecdjincmkofaaGreatDoorPlan
import Derived.Test.YtmecdjincmkofaaGreatDoorInts
import Derived.Test.YtmecdjincmkofaaGreatDoorRels
import Derived.Test.YtmecdjincmkofaaGreatDoorTyDepS
import Derived.Test.YtmecdjincmkofaaGreatDoorCmpI
import Derived.Test.YtmecdjincmkofaaGreatDoorMInst
import Derived.Test.YtmecdjincmkofaaGreatDoorVarsM
import Derived.Test.YtmecdjincmkofaaGreatDoorReadS
import Derived.Test.YtmecdjincmkofaaGreatDoorParDS
import Derived.Test.YtmecdjincmkofaaGreatDoorHasI
import Derived.Test.YtmecdjincmkofaaGreatDoorReadI
namespace Go.Proofs.YtmecdjincmkofaaGreatDoor
open Go.RowKit

set_option maxHeartbeats 6400000 in
set_option maxRecDepth 100000 in
theorem specParseDeps_any (v : Value) (l : List Rel) (s : ByteArray) (w : World) (hl : RelsAt w w.heap.size v l) (hn : l.length ≤ 1048576) (hs : s.size ≤ 1048576) :
    Calls Tryz.prog 15 #[v, .string s] w fun e w' => ∃ u, e = .returned (.tuple #[u, .bool (ParseDependencies_ok l s)]) ∧ DependencyS_own w.heap.size w'.heap.size u (ParseDependencies_r0 l s) w' ∧ Below w.heap.size w w' := by
  have HLR := Lib.hid hl
  obtain ⟨A0, a0, rfl, hlc, hcm, -⟩ := hl
  have hcut := specCutAt_any 59 s (w.alloc (.cells #[] 37)) hs
  have h59 : (((59 : UInt8).toNat : Nat) : Int) = 59 := rfl
  rw [h59] at hcut
  clear h59
  have hE : Below w.heap.size w (w.alloc (.cells #[] 37)) := below_more (Below.refl _ _) _
  have hEz : (w.alloc (.cells #[] 37)).heap.size = w.heap.size + 1 := by simp
  have HO0 := Lib.hid (DependencySO.empty 37 w)
  go_enter Tryz.func15, Tryz.ntmps15
  go_wp2_with fail
  refine hcut.mono ?_
  rintro e w1 ⟨vW, L, rfl, hL, hOL, hb1⟩
  have hz1 := hb1.size
  have hW1 := hE.trans (hb1.mono hE.size)
  have hLl : L.length = (cutA 59 s.data.toList).length := by have := congrArg List.length hL; simpa [dataOf] using this
  have hLn : L.length ≤ 1048577 := by
    have h1 := cutA_len 59 s.data.toList
    have h2 : s.data.toList.length = s.size := by simp
    omega
  have hLt : ∀ (k : Nat) (h : k < L.length), L[k].size ≤ 1048576 := by
    intro k h
    have h1 := cutA_mem_len 59 s.data.toList L[k].data.toList (by rw [← hL]; exact List.mem_map.2 ⟨_, List.getElem_mem h, rfl⟩)
    have h2 : s.data.toList.length = s.size := by simp
    have h3 : L[k].data.toList.length = L[k].size := by simp
    omega
  have hL0 : 0 < L.length := by rw [hLl]; exact List.length_pos_iff.2 (cutA_ne _ _)
  obtain ⟨A, c, rfl, hc1, hc2⟩ := hOL.form
  unfold maxLen at hc2
  have HO1 := Lib.hid (HO0.out.below hb1 (by rw [hEz]; exact Nat.le_refl _))
  have HL := Lib.hid hL
  have HLl := Lib.hid hLl
  have HLt := Lib.hid hLt
  have HEz := Lib.hid hEz
  have HL0 := Lib.hid hL0
  clear hcut hL hLl hLt hb1 hEz hL0
  rw [HEz.out] at hOL hz1
  go_wp2
  go_loopw [6, 8] (fun o i wr => ∃ (n : Nat) (Xs : List DepX) (xs : List Dep), n ≤ L.length ∧ i = .int .i64 n ∧ Hid (xs.length = n) ∧ Hid (s.data.toList = [] → n = 0) ∧ Hid (toDeps l ((cutA 59 s.data.toList).take n) = some xs) ∧ Hid (DependencyS_wf xs) ∧ DependencySO 37 w.heap.size wr.heap.size o Xs xs wr ∧ OwnStrs (w.heap.size + 1) (.slice A L.length c) L wr ∧ Below w.heap.size w wr) (fun _ i _ => L.length - (intOf i).toNat)
  case atStart => exact ⟨0, [], [], by omega, rfl, Lib.hid rfl, Lib.hid (fun _ => rfl), Lib.hid rfl, Lib.hid (fun i hi => absurd hi (by simp)), HO1.out.mono (Nat.le_refl _) hz1, hOL, hW1⟩
  case round =>
    clear hOL hW1 hz1
    obtain ⟨n, Xs, xs, hnl, rfl, HXl, HN0, HTD, HWF, hO, hOL, hW⟩ := hrel
    have hz := hW.size
    have HO := Lib.hid hO
    obtain ⟨oP, oc, rfl, -, -⟩ := (hO.at_ (Nat.le_refl _)).form
    clear hO
    by_cases hgo : n < L.length ∧ s.data.toList ≠ []
    · obtain ⟨hlt, h0⟩ := hgo
      have hnc : n < (cutA 59 s.data.toList).length := by have := HLl.out; omega
      obtain ⟨b, off, rfl, hb, hc⟩ := StrsAt.elem hOL.at_ n hlt
      have HK : Hid (L[n].data.toList = (cutA 59 s.data.toList)[n]) := Lib.hid (by simp [← HL.out, dataOf])
      have hts := HLt.out n hlt
      have hse : (s.toList == []) = false := by rw [ByteArray.toList_eq, beq_eq_false_iff_ne]; exact h0
      have hsn : (s.toList != []) = true := by unfold bne; rw [hse]; rfl
      have H0 := Lib.hid h0
      have HOL := Lib.hid hOL
      generalize L[n] = t at *
      have hpd := specParseDep_any (.slice A0 l.length a0) l t wr ((HLR.out.below hW (Nat.le_refl _)).more hz) hn hts
      clear h0 hOL
      go_wp2_with fail
      refine hpd.mono ?_
      rintro e w2 ⟨X, rfl, hX, hb2⟩
      have hz2 := hb2.size
      have hW2 := hW.trans (hb2.mono hz)
      obtain ⟨Y1, y1, hY1, -, -⟩ := (hX.1.at_ (Nat.le_refl _)).form
      obtain ⟨Y2, y2, hY2, -, -⟩ := (hX.2.1.at_ (Nat.le_refl _)).form
      have hpw := parseDep_wf l hn t
      have hok := parseDep_ok_is (l := l) (s := t) rfl
      rw [hY1, hY2]
      have HY := Lib.hid (And.intro hY1 hY2)
      have HX := Lib.hid hX
      have HO2 := Lib.hid (HO.out.below hb2 (Nat.le_refl _))
      have HOL2 := Lib.hid (HOL.out.below hb2 (Nat.le_refl _))
      have HPW := Lib.hid hpw
      clear hpd hY1 hY2 hX hpw hc
      cases hq : ParseDependency_ok l t with
      | false =>
        rw [hq] at hok
        have HV := Lib.hid (parseDeps_none (parseDeps_stop H0.out n hnc (by rw [← HK.out]; exact hok.2 rfl)))
        clear hok hq
        generalize ParseDependency_r0 l t = x at *
        have hfin : Below w.heap.size w ((w2.alloc (.cells #[.slice Y1 x.body.length y1, .slice Y2 x.head.length y2, .bool x.egd, .int .i64 x.left, .int .i64 x.right] 37)).alloc (.cells #[] 37)) := (hW2.alloc hW2.size _).alloc (by simp; have := hW2.size; omega) _
        have HF := Lib.hid hfin
        have HDE := Lib.hid (DependencySO.empty 37 (w2.alloc (.cells #[.slice Y1 x.body.length y1, .slice Y2 x.head.length y2, .bool x.egd, .int .i64 x.left, .int .i64 x.right] 37)))
        clear hfin
        go_wp2
        go_ret2
        exact ⟨_, by rw [HV.out.2]; rfl, by rw [HV.out.1]; exact ⟨[], by simpa using HDE.out.mono (by simp; omega) (by simp)⟩, HF.out⟩
      | true =>
        rw [hq] at hok
        have HP := Lib.hid (hok.1 rfl)
        have HTN := Lib.hid (show toDeps l ((cutA 59 s.data.toList).take (n + 1)) = some (xs ++ [ParseDependency_r0 l t]) by
          rw [List.take_succ_eq_append_getElem hnc]
          exact toDeps_snoc _ _ _ _ HTD.out (by rw [← HK.out]; exact HP.out))
        clear hok hq
        generalize ParseDependency_r0 l t = x at *
        obtain ⟨W, hWe⟩ : ∃ W, W = w2.alloc (.cells #[.slice Y1 x.body.length y1, .slice Y2 x.head.length y2, .bool x.egd, .int .i64 x.left, .int .i64 x.right] 37) := ⟨_, rfl⟩
        have hAl : Below w2.heap.size w2 W := by rw [hWe]; exact below_more (Below.refl _ _) _
        have hWs : W.heap.size = w2.heap.size + 1 := by rw [hWe]; simp
        have HOW := Lib.hid ((HO2.out.mono (Nat.le_refl _) hz2).below hAl (Nat.le_refl _))
        have HLW := Lib.hid (HOL2.out.below hAl (Nat.le_refl _))
        have HXW := Lib.hid (HX.out.below hAl (Nat.le_refl _))
        have HBW := Lib.hid (hW2.trans (hAl.mono hW2.size))
        have HWs := Lib.hid hWs
        have hdl := dZip_len (l := xs) (Ps := Xs.map DepX.vals) (by rw [List.length_map, HO2.out.len])
        have hbd1 : ((dZip xs (Xs.map DepX.vals)).length + 1) * 72 ≤ 140737488355328 := by rw [hdl, HXl.out]; omega
        have hbd2 : (dZip xs (Xs.map DepX.vals)).length < 140737488355328 := by rw [hdl, HXl.out]; omega
        have hbd3 : w.heap.size ≤ W.heap.size := HBW.out.size
        clear hdl hAl hWs
        have k0 : W.cell? ⟨w2.heap.size, 0, none⟩ = some (.slice Y1 x.body.length y1) := by rw [hWe]; simp [go_sem]
        have k1 : W.cell? ⟨w2.heap.size, 1, none⟩ = some (.slice Y2 x.head.length y2) := by rw [hWe]; simp [go_sem]
        have k2 : W.cell? ⟨w2.heap.size, 2, none⟩ = some (.bool x.egd) := by rw [hWe]; simp [go_sem]
        have k3 : W.cell? ⟨w2.heap.size, 3, none⟩ = some (.int .i64 x.left) := by rw [hWe]; simp [go_sem]
        have k4 : W.cell? ⟨w2.heap.size, 4, none⟩ = some (.int .i64 x.right) := by rw [hWe]; simp [go_sem]
        go_upto_region 9 with fail
        rw [← hWe]
        clear hWe
        go_wp2_with (at_builtin; refine wp_own_app_one dCells 5 72 dCells_len Tryz.underlying25 infoDep rfl (by decide) HOW.out.row rfl _ _ rfl rfl ⟨.slice Y1 x.body.length y1, .slice Y2 x.head.length y2, x.egd, x.left, x.right⟩ (fun u hu => by simp [dCells] at hu; rcases hu with rfl | rfl | rfl | rfl | rfl <;> rfl) 1 rfl hbd1 hbd2 hbd3 ?_; intro v8 w8 hrow hB8 hg8)
        have hz8 := hg8.size
        have hre : (⟨.slice Y1 x.body.length y1, .slice Y2 x.head.length y2, x.egd, x.left, x.right⟩ : DepC) = depC x X.vals := by
          unfold depC DepX.vals
          rw [HY.out.1, HY.out.2]
        rw [hre] at hrow
        have hFS := DependencySO.snoc (e := 37) (by decide) (by decide) (x := x) (X := X) (C' := w8.heap.size) HOW.out (by have := HWs.out; omega) hrow hg8 (row_inside hrow (Nat.le_refl _)) (HXW.out.mono (by omega) (by have := HWs.out; omega)) (fun i hi q h1 h2 => by
          have h3 := (HX.out.foot q h2).1
          have h4 := ((HO.out.el i (by have := HO.out.len; omega) hi).foot q h1).2
          omega)
        have hkeep : OwnStrs (w.heap.size + 1) (.slice (some ⟨b, off, none⟩) L.length c) L w8 := World.ownsRow.kept HLW.out hg8 (own_ne HLW.out HOW.out.row (by decide))
        have hWf := HBW.out.trans hB8
        have HFS := Lib.hid hFS
        clear hre hrow hFS
        go_roundw
        case rel => exact ⟨n + 1, Xs ++ [X], xs ++ [x], by omega, by go_num, Lib.hid (by rw [List.length_append, HXl.out]; rfl), Lib.hid (fun h => absurd h H0.out), HTN, Lib.hid (deps_wf_snoc HWF.out HPW.out), HFS.out, hkeep, hWf⟩
        case measure => simp [intOf]; omega
    · have HE := Lib.hid (show parseDeps l s.data.toList = if depsOk l xs = true then some xs else none by
        by_cases h0 : s.data.toList = []
        · have e0 := HN0.out h0
          have : xs = [] := List.eq_nil_of_length_eq_zero (by rw [HXl.out, e0])
          rw [this]; exact parseDeps_nil h0
        · have hnl2 : n = L.length := by
            rcases Nat.lt_or_ge n L.length with h | h
            · exact absurd ⟨h, h0⟩ hgo
            · omega
          refine parseDeps_end h0 ?_
          have := HTD.out
          rwa [List.take_of_length_le (by rw [← HLl.out, hnl2]; exact Nat.le_refl _)] at this)
      have hAV := specAreValidDeps_any (.slice A0 l.length a0) l (.slice oP xs.length oc) xs wr ((HLR.out.below hW (Nat.le_refl _)).more hz) hn (HO.out.at_ (Nat.le_refl _)) HWF.out
      have hcond : (decide (n < L.length) && !(s.toList == [])) = false := by
        by_cases h1 : n < L.length
        · have h0 : s.data.toList = [] := Classical.byContradiction fun h => hgo ⟨h1, h⟩
          rw [show (s.toList == []) = true by rw [ByteArray.toList_eq, h0]; rfl]; simp
        · rw [decide_eq_false h1]; rfl
      have hcases : (decide ((n : Int) < (L.length : Int)) = false ∧ decide (n < L.length) = false) ∨ (decide ((n : Int) < (L.length : Int)) = true ∧ decide (n < L.length) = true ∧ (s.toList == []) = true ∧ (s.toList != []) = false) := by
        by_cases h1 : n < L.length
        · have h0 : s.data.toList = [] := Classical.byContradiction fun h => hgo ⟨h1, h⟩
          have e : (s.toList == []) = true := by rw [ByteArray.toList_eq, h0]; rfl
          exact .inr ⟨decide_eq_true (by omega), decide_eq_true h1, e, by unfold bne; rw [e]; rfl⟩
        · exact .inl ⟨decide_eq_false (by omega), decide_eq_false h1⟩
      clear hcond hgo
      cases hok : depsOk l xs with
      | false =>
        have hAV' := hAV
        rw [hok] at hAV'
        have HV := Lib.hid (parseDeps_none (HE.out.trans (if_neg (by rw [hok]; simp))))
        clear hAV hok
        rcases hcases with ⟨h1, h2⟩ | ⟨h1, h2, h3, h4⟩
        all_goals
          go_wp2_with fail
          refine hAV'.mono ?_
          rintro e w9 ⟨rfl, hb9⟩
          have hW9 := hW.trans (hb9.mono hz)
          have HF := Lib.hid (show Below w.heap.size w (w9.alloc (.cells #[] 37)) from hW9.alloc hW9.size _)
          have HDE := Lib.hid (DependencySO.empty 37 w9)
          have HZ9 := Lib.hid hW9.size
          clear hAV'
          go_wp2
          go_ret2
          exact ⟨_, by rw [HV.out.2]; rfl, by rw [HV.out.1]; exact ⟨[], HDE.out.mono HZ9.out (by simp)⟩, HF.out⟩
      | true =>
        have hAV' := hAV
        rw [hok] at hAV'
        have HV := Lib.hid (parseDeps_some (HE.out.trans (if_pos hok)))
        clear hAV hok
        rcases hcases with ⟨h1, h2⟩ | ⟨h1, h2, h3, h4⟩
        all_goals
          go_wp2_with fail
          refine hAV'.mono ?_
          rintro e w9 ⟨rfl, hb9⟩
          have hW9 := hW.trans (hb9.mono hz)
          clear hAV'
          go_wp2
          go_ret2
          exact ⟨_, by rw [HV.out.2]; rfl, by rw [HV.out.1]; exact ⟨Xs, (HO.out.below hb9 (Nat.le_refl _)).mono (Nat.le_refl _) hb9.size⟩, hW9⟩
theorem specParseDependencies_c (v : Value) (l : List Rel) (s : ByteArray) (w : World) (h : RelationS_at w w.heap.size v l) (_ : RelationS_wf l) (hn : RelationS_sz l ≤ 1048576) (hs : s.size ≤ 1048576) :
    Calls Tryz.prog 15 #[v, .string s] w fun e w' => ∃ r0, e = .returned (.tuple #[r0, .bool (ParseDependencies_ok l s)]) ∧ DependencyS_at w' w'.heap.size r0 (ParseDependencies_r0 l s) ∧ Below w.heap.size w w' :=
  (specParseDeps_any v l s w h (by unfold RelationS_sz at hn; omega) hs).mono fun _ _ ⟨u, he, ho, hb⟩ => ⟨u, he, ho.at_ (Nat.le_refl _), hb⟩

set_option maxHeartbeats 3200000 in
set_option maxRecDepth 100000 in
theorem specFormatDeps_any (v : Value) (l : List Rel) (u : Value) (xs : List Dep) (w : World) (hl : RelsAt w w.heap.size v l) (hn : l.length ≤ 1048576) (h : DependencyS_at w w.heap.size u xs) (hw : DependencyS_wf xs) :
    Calls Tryz.prog 54 #[v, u] w fun e w' => e = .returned (.string ⟨(fmtDeps l xs).toArray⟩) ∧ Below w.heap.size w w' := by
  have HL := Lib.hid hl
  have HX := Lib.hid h
  obtain ⟨A, a0, rfl, hlc, hcm, -⟩ := hl
  obtain ⟨A', c, rfl, hc1, hc2⟩ := h.form
  unfold maxLen at hc2
  clear h
  have h59 : ByteArray.size ⟨#[59]⟩ = 1 := rfl
  have hAV := fun (w1 : World) (hb1 : Below w.heap.size w w1) => specAreValidDeps_any (.slice A l.length a0) l (.slice A' xs.length c) xs w1 ((HL.out.below hb1 (Nat.le_refl _)).more hb1.size) hn (HX.out.later hb1) hw
  cases hok : depsOk l xs with
  | false =>
    have HV := Lib.hid (fmtDeps_no hok)
    rw [hok] at hAV
    by_cases h0 : xs.length = 0
    · have hd1 : decide ((0 : Int) < (xs.length : Int)) = false := decide_eq_false (by omega)
      have hd2 : decide (0 < xs.length) = false := decide_eq_false (by omega)
      clear hAV h0 hok
      go_enter Tryz.func54, Tryz.ntmps54
      go_wp2
      go_loopw [5, 6] (fun s i wr => i = .int .i64 0 ∧ s = .string ⟨#[]⟩ ∧ Below w.heap.size w wr) (fun _ i _ => xs.length - (intOf i).toNat)
      case atStart => exact ⟨rfl, rfl, Below.refl _ _⟩
      case round =>
        obtain ⟨rfl, rfl, hW⟩ := hrel
        go_wp2
        go_ret
        exact ⟨ret_str (by rw [HV.out]), hW⟩
    · have hd1 : decide ((0 : Int) < (xs.length : Int)) = true := decide_eq_true (by omega)
      have hd2 : decide (0 < xs.length) = true := decide_eq_true (by omega)
      clear h0 hok
      go_enter Tryz.func54, Tryz.ntmps54
      go_wp2
      go_loopw [5, 6] (fun s i wr => i = .int .i64 0 ∧ s = .string ⟨#[]⟩ ∧ Below w.heap.size w wr) (fun _ i _ => xs.length - (intOf i).toNat)
      case atStart => exact ⟨rfl, rfl, Below.refl _ _⟩
      case round =>
        obtain ⟨rfl, rfl, hW⟩ := hrel
        go_wp2_with (go_at_call 17; refine (hAV _ hW).mono ?_; rintro e w2 ⟨rfl, hb2⟩)
        go_ret
        exact ⟨ret_str (by rw [HV.out]), hW.trans (hb2.mono hW.size)⟩
  | true =>
    have HV := Lib.hid (fmtDeps_yes hok)
    have h5 : xs.length ≤ 5 := (depsOk_mem hok).2.1
    rw [hok] at hAV
    clear hok
    go_enter Tryz.func54, Tryz.ntmps54
    go_wp2
    go_loopw [5, 6] (fun s i wr => ∃ j : Nat, j ≤ xs.length ∧ i = .int .i64 j ∧ s = .string ⟨(joinDeps l (xs.take j)).toArray⟩ ∧ Below w.heap.size w wr) (fun _ i _ => xs.length - (intOf i).toNat)
    case atStart => exact ⟨0, by omega, rfl, rfl, Below.refl _ _⟩
    case round =>
      obtain ⟨j, hj, rfl, rfl, hW⟩ := hrel
      have hz := hW.size
      have hsz : ByteArray.size ⟨(joinDeps l (xs.take j)).toArray⟩ ≤ 110 := by
        rw [size_mk]; have := joinDeps_len l xs j hj; omega
      by_cases hlt : j < xs.length
      · have hav := hAV wr hW
        obtain ⟨b, off, V, U, rfl, hb, c0, c1, c2, c3, c4, hV, hU⟩ := DependencyS_at.elem HX.out j hlt
        obtain ⟨PV, cV, rfl, -, -⟩ := hV.form
        obtain ⟨PU, cU, rfl, -, -⟩ := hU.form
        have HV2 := Lib.hid hV
        have HU2 := Lib.hid hU
        have hfl : ByteArray.size ⟨(fmtDep l xs[j]).toArray⟩ ≤ 21 := by rw [size_mk]; exact fmtDep_len _ _
        have hfd := fun (w1 : World) (hb1 : Below w.heap.size w w1) => specFormatDep_any (.slice A l.length a0) l (.agg #[.slice PV xs[j].body.length cV, .slice PU xs[j].head.length cU, .bool xs[j].egd, .int .i64 xs[j].left, .int .i64 xs[j].right]) xs[j] w1 ((HL.out.below hb1 (Nat.le_refl _)).more hb1.size) hn ⟨_, _, rfl, (HV2.out.below hb1 (Nat.le_refl _)).more hb1.size, (HU2.out.below hb1 (Nat.le_refl _)).more hb1.size⟩ (hw j hlt)
        have hd1 : decide ((j : Int) < (xs.length : Int)) = true := decide_eq_true (by omega)
        have hd2 : decide (j < xs.length) = true := decide_eq_true hlt
        have C0 := Lib.hid c0
        have C1 := Lib.hid c1
        have C2 := Lib.hid c2
        have C3 := Lib.hid c3
        have C4 := Lib.hid c4
        clear c0 c1 c2 c3 c4 hV hU hAV
        rcases Nat.eq_zero_or_pos j with h0 | h0
        all_goals
          first
            | (have hg1 : decide ((0 : Int) < (j : Int)) = false := decide_eq_false (by omega)
               have hg2 : decide (0 < j) = false := decide_eq_false (by omega)
               have HS' := Lib.hid (show (⟨(joinDeps l (xs.take j)).toArray⟩ : ByteArray) ++ ⟨(fmtDep l xs[j]).toArray⟩ = ⟨(joinDeps l (xs.take (j + 1))).toArray⟩ by
                 subst h0
                 rw [joinDeps_one l xs hlt, mk_app]; rfl))
            | (have hg1 : decide ((0 : Int) < (j : Int)) = true := decide_eq_true (by omega)
               have hg2 : decide (0 < j) = true := decide_eq_true (by omega)
               have HS' := Lib.hid (show ((⟨(joinDeps l (xs.take j)).toArray⟩ : ByteArray) ++ ⟨#[59]⟩) ++ ⟨(fmtDep l xs[j]).toArray⟩ = ⟨(joinDeps l (xs.take (j + 1))).toArray⟩ by
                 rw [joinDeps_succ l xs j h0 hlt, show (⟨#[59]⟩ : ByteArray) = ⟨([59] : List UInt8).toArray⟩ from rfl, mk_app, mk_app, List.append_assoc]))
          clear h0
          generalize (⟨(joinDeps l (xs.take j)).toArray⟩ : ByteArray) = J at *
          generalize (⟨(fmtDep l xs[j]).toArray⟩ : ByteArray) = I at *
          go_wp2_with fail
          refine hav.mono ?_
          rintro e w2 ⟨rfl, hb2⟩
          have hW2 := hW.trans (hb2.mono hz)
          have c0 := (hW2.cell (p := ⟨b, off + j * 5, none⟩) hb).trans C0.out
          have c1 := (hW2.cell (p := ⟨b, off + j * 5 + 1, none⟩) hb).trans C1.out
          have c2 := (hW2.cell (p := ⟨b, off + j * 5 + 2, none⟩) hb).trans C2.out
          have c3 := (hW2.cell (p := ⟨b, off + j * 5 + 3, none⟩) hb).trans C3.out
          have c4 := (hW2.cell (p := ⟨b, off + j * 5 + 4, none⟩) hb).trans C4.out
          have hfd2 := hfd w2 hW2
          clear hav hfd
          go_wp2_with (go_at_call 123; refine hfd2.mono ?_; rintro e w3 ⟨rfl, hb3⟩)
          go_roundw
          case rel => exact ⟨j + 1, by omega, by go_num, by rw [← HS'.out], hW2.trans (hb3.mono hW2.size)⟩
          case measure => simp [intOf]; omega
      · obtain rfl : j = xs.length := by omega
        have hd1 : decide ((xs.length : Int) < (xs.length : Int)) = false := decide_eq_false (by omega)
        have HE := Lib.hid (show (⟨(joinDeps l (xs.take xs.length)).toArray⟩ : ByteArray) = ⟨(fmtDeps l xs).toArray⟩ by rw [List.take_of_length_le (Nat.le_refl _), HV.out])
        go_wp2
        go_ret
        exact ⟨ret_str HE.out, hW⟩
theorem specFormatDependencies_c (v : Value) (l : List Rel) (u : Value) (x : List Dep) (w : World) (h : RelationS_at w w.heap.size v l) (_ : RelationS_wf l) (hn : RelationS_sz l ≤ 1048576) (h' : DependencyS_at w w.heap.size u x) (hw : DependencyS_wf x) (_ : DependencyS_sz x ≤ 1048576) :
    Calls Tryz.prog 54 #[v, u] w fun e w' => e = .returned (.string ⟨(fmtDeps l x).toArray⟩) ∧ Below w.heap.size w w' :=
  specFormatDeps_any v l u x w h (by unfold RelationS_sz at hn; omega) h' hw

set_option maxHeartbeats 1600000 in
set_option maxRecDepth 100000 in
theorem specL5Place_any (v u : Value) (x : Inst) (y : Fct) (w : World) (h : Instance_at w w.heap.size v x) (h' : Fact_at w w.heap.size u y) :
    Calls Tryz.prog 206 #[v, u] w fun e w' => e = .returned (.int .i64 (placeF y x.facts)) ∧ Below w.heap.size w w' := by
  obtain ⟨P, c, Q, d, rfl⟩ := Instance_form h
  obtain ⟨P', c', rfl⟩ := Fact_form h'
  obtain ⟨V1, V2, hv, hR, hF⟩ := h
  simp only [Value.agg.injEq, Array.mk.injEq, List.cons.injEq, and_true] at hv
  obtain ⟨rfl, rfl⟩ := hv
  obtain ⟨_, _, hv2, hd1, hd2⟩ := hF.form
  injection hv2 with e1 _ e2
  subst e1 e2
  unfold maxLen at hd2
  have HF := Lib.hid hF
  have HY := Lib.hid h'
  clear hR hF h'
  have hE : Below w.heap.size w ((w.alloc (.cells #[.slice P x.rels.length c, .slice Q x.facts.length d] 40)).alloc (.cells #[.int .i64 y.rel, .slice P' y.vals.length c'] 57)) := below_more (below_more (Below.refl _ _) _) _
  have HE := Lib.hid (show w.heap.size + 2 = ((w.alloc (.cells #[.slice P x.rels.length c, .slice Q x.facts.length d] 40)).alloc (.cells #[.int .i64 y.rel, .slice P' y.vals.length c'] 57)).heap.size by simp)
  have K1 := Lib.hid (show ((w.alloc (.cells #[.slice P x.rels.length c, .slice Q x.facts.length d] 40)).alloc (.cells #[.int .i64 y.rel, .slice P' y.vals.length c'] 57)).cell? ⟨w.heap.size, 1, none⟩ = some (.slice Q x.facts.length d) by simp [go_sem])
  have L0 := Lib.hid (show ((w.alloc (.cells #[.slice P x.rels.length c, .slice Q x.facts.length d] 40)).alloc (.cells #[.int .i64 y.rel, .slice P' y.vals.length c'] 57)).cell? ⟨w.heap.size + 1, 0, none⟩ = some (.int .i64 y.rel) by simp [go_sem])
  have L1 := Lib.hid (show ((w.alloc (.cells #[.slice P x.rels.length c, .slice Q x.facts.length d] 40)).alloc (.cells #[.int .i64 y.rel, .slice P' y.vals.length c'] 57)).cell? ⟨w.heap.size + 1, 1, none⟩ = some (.slice P' y.vals.length c') by simp [go_sem])
  go_enter Tryz.func206, Tryz.ntmps206
  go_wp2
  go_loopw [5] (fun i wr => ∃ k : Nat, k ≤ x.facts.length ∧ i = .int .i64 k ∧ Hid (PlaceTo y x.facts k) ∧ Below ((w.alloc (.cells #[.slice P x.rels.length c, .slice Q x.facts.length d] 40)).alloc (.cells #[.int .i64 y.rel, .slice P' y.vals.length c'] 57)).heap.size ((w.alloc (.cells #[.slice P x.rels.length c, .slice Q x.facts.length d] 40)).alloc (.cells #[.int .i64 y.rel, .slice P' y.vals.length c'] 57)) wr) (fun i _ => x.facts.length - (intOf i).toNat)
  case atStart => exact ⟨0, by omega, rfl, Lib.hid (PlaceTo.zero _ _), Below.refl _ _⟩
  case round =>
    obtain ⟨k, hk, rfl, HT, hW⟩ := hrel
    have hWw := hE.trans (hW.mono hE.size)
    have f1 := (hW.cell (p := ⟨w.heap.size, 1, none⟩) (by show w.heap.size < _; have := HE.out; omega)).trans K1.out
    by_cases hlt : k < x.facts.length
    · obtain ⟨b, off, V, rfl, hb, c0, c1, hV⟩ := FactS_at.elem HF.out k hlt
      have G1 := Aft.cell (B := ((w.alloc (.cells #[.slice P x.rels.length c, .slice (some ⟨b, off, none⟩) x.facts.length d] 40)).alloc (.cells #[.int .i64 y.rel, .slice P' y.vals.length c'] 57)).heap.size) (by show w.heap.size < _; have := HE.out; omega) K1.out
      have G2 := Aft.cell (B := ((w.alloc (.cells #[.slice P x.rels.length c, .slice (some ⟨b, off, none⟩) x.facts.length d] 40)).alloc (.cells #[.int .i64 y.rel, .slice P' y.vals.length c'] 57)).heap.size) (by show w.heap.size + 1 < _; have := HE.out; omega) L0.out
      have G3 := Aft.cell (B := ((w.alloc (.cells #[.slice P x.rels.length c, .slice (some ⟨b, off, none⟩) x.facts.length d] 40)).alloc (.cells #[.int .i64 y.rel, .slice P' y.vals.length c'] 57)).heap.size) (by show w.heap.size + 1 < _; have := HE.out; omega) L1.out
      have C0 := Aft.cell (B := ((w.alloc (.cells #[.slice P x.rels.length c, .slice (some ⟨b, off, none⟩) x.facts.length d] 40)).alloc (.cells #[.int .i64 y.rel, .slice P' y.vals.length c'] 57)).heap.size) (w := ((w.alloc (.cells #[.slice P x.rels.length c, .slice (some ⟨b, off, none⟩) x.facts.length d] 40)).alloc (.cells #[.int .i64 y.rel, .slice P' y.vals.length c'] 57))) (by have := HE.out; omega) ((hE.cell (p := ⟨b, off + k * 2, none⟩) hb).trans c0)
      have C1 := Aft.cell (B := ((w.alloc (.cells #[.slice P x.rels.length c, .slice (some ⟨b, off, none⟩) x.facts.length d] 40)).alloc (.cells #[.int .i64 y.rel, .slice P' y.vals.length c'] 57)).heap.size) (w := ((w.alloc (.cells #[.slice P x.rels.length c, .slice (some ⟨b, off, none⟩) x.facts.length d] 40)).alloc (.cells #[.int .i64 y.rel, .slice P' y.vals.length c'] 57))) (by have := HE.out; omega) ((hE.cell (p := ⟨b, off + k * 2 + 1, none⟩) hb).trans c1)
      have hcon := fun (q : Int) (hq : cmpF x.facts[k] y = q) (u : Aft ((w.alloc (.cells #[.slice P x.rels.length c, .slice (some ⟨b, off, none⟩) x.facts.length d] 40)).alloc (.cells #[.int .i64 y.rel, .slice P' y.vals.length c'] 57)).heap.size ((w.alloc (.cells #[.slice P x.rels.length c, .slice (some ⟨b, off, none⟩) x.facts.length d] 40)).alloc (.cells #[.int .i64 y.rel, .slice P' y.vals.length c'] 57))) => specCompareFacts_at x.facts[k] y q hq (.agg #[.int .i64 x.facts[k].rel, V]) (.agg #[.int .i64 y.rel, .slice P' y.vals.length c']) u.now ⟨V, rfl, (hV.below (hE.trans (u.is.mono hE.size)) (Nat.le_refl _)).more (hE.trans (u.is.mono hE.size)).size⟩ ((HY.out.below (hE.trans (u.is.mono hE.size)) (Nat.le_refl _)).more (hE.trans (u.is.mono hE.size)).size)
      clear c0 c1
      by_cases he : x.facts[k] = y
      · have hq := (cmpF_zero x.facts[k] y).2 he
        have HV := Lib.hid (HT.out.hit hlt he)
        have hcon' := hcon 0 hq
        clear hcon hq he
        go_wp2
        refine wp_region_aft hW (by kernel_rfl) (by kernel_rfl) ?_
        repeat (go_big_quiet_step (((go_at_call 90; exact calls_aft (Nat.le_refl _) (hcon' _)))))
        refine wpQuiet_nil ?_
        refine aft_end ?_
        intro w1 hh
        go_wp2
        go_ret
        exact ⟨ret_int HV.out.symm, hE.trans (hh.mono hE.size)⟩
      · obtain ⟨q, hq⟩ : ∃ q, cmpF x.facts[k] y = q := ⟨_, rfl⟩
        have hq0 : (q == 0) = false := beq_eq_false_iff_ne.2 (fun e => he ((cmpF_zero _ _).1 (hq.trans e)))
        have HV := Lib.hid (HT.out.next hlt he)
        have hcon' := hcon q hq
        clear hcon hq he
        go_wp2
        refine wp_region_aft hW (by kernel_rfl) (by kernel_rfl) ?_
        repeat (go_big_quiet_step (((go_at_call 90; exact calls_aft (Nat.le_refl _) (hcon' _)))))
        refine wpQuiet_nil ?_
        refine aft_end ?_
        intro w1 hh
        go_wp2
        go_roundw
        case rel => exact ⟨k + 1, by omega, by go_num, HV, hh⟩
        case measure => simp [intOf]; omega
    · obtain rfl : k = x.facts.length := by omega
      have HV := Lib.hid HT.out.miss
      go_wp2
      go_ret
      exact ⟨ret_int HV.out.symm, hWw⟩

set_option maxHeartbeats 1600000 in
set_option maxRecDepth 100000 in
theorem specL5Fact_any (v : Value) (x : Fct) (w : World) (h : Fact_at w w.heap.size v x) (hn : Fact_sz x ≤ 1048576) :
    Calls Tryz.prog 177 #[v] w fun e w' => ∃ u, e = .returned u ∧ Fact_own w.heap.size w'.heap.size u x w' ∧ Below w.heap.size w w' := by
  obtain ⟨V, rfl, hV⟩ := h
  have HV := Lib.hid hV
  obtain ⟨A, c, rfl, hlc, hcm, -, hA⟩ := hV
  unfold Fact_sz at hn
  unfold maxLen at hcm
  have hE : Below w.heap.size w ((w.alloc (.cells #[.int .i64 x.rel, .slice A x.vals.length c] 57)).alloc (.cells #[.int .i64 0, .slice none 0 0] 57)) := below_more (below_more (Below.refl _ _) _) _
  have hEz : w.heap.size + 2 = ((w.alloc (.cells #[.int .i64 x.rel, .slice A x.vals.length c] 57)).alloc (.cells #[.int .i64 0, .slice none 0 0] 57)).heap.size := by simp
  have G0 := Aft.cell (B := ((w.alloc (.cells #[.int .i64 x.rel, .slice A x.vals.length c] 57)).alloc (.cells #[.int .i64 0, .slice none 0 0] 57)).heap.size) (by omega) (show ((w.alloc (.cells #[.int .i64 x.rel, .slice A x.vals.length c] 57)).alloc (.cells #[.int .i64 0, .slice none 0 0] 57)).cell? ⟨w.heap.size, 0, none⟩ = some (.int .i64 x.rel) by simp [go_sem])
  have G1 := Aft.cell (B := ((w.alloc (.cells #[.int .i64 x.rel, .slice A x.vals.length c] 57)).alloc (.cells #[.int .i64 0, .slice none 0 0] 57)).heap.size) (by omega) (show ((w.alloc (.cells #[.int .i64 x.rel, .slice A x.vals.length c] 57)).alloc (.cells #[.int .i64 0, .slice none 0 0] 57)).cell? ⟨w.heap.size, 1, none⟩ = some (.slice A x.vals.length c) by simp [go_sem])
  have HB1 := Lib.hid (show Below ((w.alloc (.cells #[.int .i64 x.rel, .slice A x.vals.length c] 57)).alloc (.cells #[.int .i64 0, .slice none 0 0] 57)).heap.size ((w.alloc (.cells #[.int .i64 x.rel, .slice A x.vals.length c] 57)).alloc (.cells #[.int .i64 0, .slice none 0 0] 57)) (((w.alloc (.cells #[.int .i64 x.rel, .slice A x.vals.length c] 57)).alloc (.cells #[.int .i64 0, .slice none 0 0] 57)).drew.alloc (.cells #[] 3)) from (Below.refl ((w.alloc (.cells #[.int .i64 x.rel, .slice A x.vals.length c] 57)).alloc (.cells #[.int .i64 0, .slice none 0 0] 57)).heap.size ((w.alloc (.cells #[.int .i64 x.rel, .slice A x.vals.length c] 57)).alloc (.cells #[.int .i64 0, .slice none 0 0] 57))).drew.alloc (show ((w.alloc (.cells #[.int .i64 x.rel, .slice A x.vals.length c] 57)).alloc (.cells #[.int .i64 0, .slice none 0 0] 57)).heap.size ≤ ((w.alloc (.cells #[.int .i64 x.rel, .slice A x.vals.length c] 57)).alloc (.cells #[.int .i64 0, .slice none 0 0] 57)).drew.heap.size from Nat.le_refl _) _)
  have HA := Lib.hid hA
  have HE := Lib.hid hEz
  clear hA hEz
  go_enter Tryz.func177, Tryz.ntmps177
  go_wp2
  refine wp_region_plan (C := fun w' => ∃ u : Aft ((w.alloc (.cells #[.int .i64 x.rel, .slice A x.vals.length c] 57)).alloc (.cells #[.int .i64 0, .slice none 0 0] 57)).heap.size ((w.alloc (.cells #[.int .i64 x.rel, .slice A x.vals.length c] 57)).alloc (.cells #[.int .i64 0, .slice none 0 0] 57)), w' = u.now) (.still 0 (.still 1 (.move true 2 (.still 3 (.still 4 (.move true 5 (.still 6 (.move false 7 .done .none)) .none))) .none))) (by kernel_rfl) (by kernel_rfl) (by kernel_rfl) (fun _ => ⟨⟨_, (Below.refl _ _).drew⟩, rfl⟩) ?_
  refine plan_look _ rfl rfl ?_
  go_big_quiet_step (fail)
  refine wpQuiet_nil ?_
  refine plan_look _ rfl rfl ?_
  go_big_quiet_step (fail)
  refine wpQuiet_nil ?_
  refine plan_value (u := .slice (some ⟨((w.alloc (.cells #[.int .i64 x.rel, .slice A x.vals.length c] 57)).alloc (.cells #[.int .i64 0, .slice none 0 0] 57)).heap.size, 0, none⟩) 0 0) (w' := ((w.alloc (.cells #[.int .i64 x.rel, .slice A x.vals.length c] 57)).alloc (.cells #[.int .i64 0, .slice none 0 0] 57)).drew.alloc (.cells #[] 3)) _ rfl rfl rfl (by simp [go_sem]) (fun _ => ⟨⟨_, HB1.out⟩, rfl⟩) ?_ True.intro
  refine plan_put ?_ (by simp only [Act.put, List.setIfInBounds_toArray, List.set_cons_succ, List.set_cons_zero]; rfl)
  refine plan_look _ rfl rfl ?_
  go_big_quiet_step (fail)
  refine wpQuiet_nil ?_
  refine plan_look _ rfl rfl ?_
  go_big_quiet_step (fail)
  refine wpQuiet_nil ?_
  have hb1 := HB1.out
  have hB1 := hE.trans (hb1.mono hE.size)
  have hO := OwnInts.empty ((w.alloc (.cells #[.int .i64 x.rel, .slice A x.vals.length c] 57)).alloc (.cells #[.int .i64 0, .slice none 0 0] 57)).drew ((w.alloc (.cells #[.int .i64 x.rel, .slice A x.vals.length c] 57)).alloc (.cells #[.int .i64 0, .slice none 0 0] 57)).heap.size (Nat.le_refl _)
  unfold OwnInts at hO
  rw [← flat_int] at hO
  refine plan_apps intCell 1 8 (fun x _ u hu => by simp [intCell] at hu; subst hu; rfl) (fun _ => rfl) (r := x.vals) _ rfl rfl Tryz.underlying55 infoInt rfl (by decide) hO _ _ rfl rfl A x.vals.length c rfl rfl (HV.out.below hB1 (Nat.le_refl _)) (by simp; omega) (by simp; omega) (by simp [World.drew]) ?_ True.intro
  intro v2 w2 hO2 hB2 _ _
  refine ⟨fun _ => ⟨⟨_, hb1.trans hB2⟩, rfl⟩, ?_⟩
  have hO3 : OwnInts ((w.alloc (.cells #[.int .i64 x.rel, .slice A x.vals.length c] 57)).alloc (.cells #[.int .i64 0, .slice none 0 0] 57)).heap.size v2 x.vals w2 := by
    have := hO2
    rw [flat_int] at this
    simpa [OwnInts] using this
  obtain ⟨P2, c2, rfl, -⟩ := hO3.at_
  have hb2 := hb1.trans hB2
  have m0 := (hb2.cell (p := ⟨w.heap.size + 1, 0, none⟩) (by show w.heap.size + 1 < _; have := HE.out; omega)).trans (show ((w.alloc (.cells #[.int .i64 x.rel, .slice A x.vals.length c] 57)).alloc (.cells #[.int .i64 0, .slice none 0 0] 57)).cell? ⟨w.heap.size + 1, 0, none⟩ = some (.int .i64 0) by simp [go_sem])
  have m1 := (hb2.cell (p := ⟨w.heap.size + 1, 1, none⟩) (by show w.heap.size + 1 < _; have := HE.out; omega)).trans (show ((w.alloc (.cells #[.int .i64 x.rel, .slice A x.vals.length c] 57)).alloc (.cells #[.int .i64 0, .slice none 0 0] 57)).cell? ⟨w.heap.size + 1, 1, none⟩ = some (.slice none 0 0) by simp [go_sem])
  have mz := fun o => (hb2.frozen (p := ⟨w.heap.size + 1, o, none⟩) (by show w.heap.size + 1 < _; have := HE.out; omega)).trans (show ((w.alloc (.cells #[.int .i64 x.rel, .slice A x.vals.length c] 57)).alloc (.cells #[.int .i64 0, .slice none 0 0] 57)).frozen? ⟨w.heap.size + 1, o, none⟩ = false by simp [go_sem])
  have HO := Lib.hid hO3
  have HB2 := Lib.hid hb2
  clear hO hO2 hO3 hB2 hb1 hb2 G0 G1
  refine plan_put ?_ (by simp only [Act.put, List.setIfInBounds_toArray, List.set_cons_succ, List.set_cons_zero]; rfl)
  refine plan_look _ rfl rfl ?_
  go_big_quiet_step (fail)
  refine wpQuiet_nil ?_
  refine plan_skip (w' := (w2.setCell ⟨w.heap.size + 1, 0, none⟩ (.int .i64 x.rel)).setCell ⟨w.heap.size + 1, 1, none⟩ (.slice P2 x.vals.length c2)) _ rfl rfl rfl (by simp [go_sem, m0, m1, mz]) (fun e => by cases e) ?_ True.intro
  refine plan_put ?_ (by simp only [Act.put]; rfl)
  refine plan_done ?_
  go_wp2
  refine bodyPost_ret (v := .agg #[.int .i64 x.rel, .slice P2 x.vals.length c2]) (by simp [results, Tryz.results177, go_sem, m0, m1]) rfl ⟨_, rfl, ⟨_, rfl, ?_, ?_⟩, ?_⟩
  · refine (HO.out.chg (((Chg.refl (fun q => q = w.heap.size + 1) w2).setCell (p := ⟨w.heap.size + 1, 0, none⟩) rfl _).setCell (p := ⟨w.heap.size + 1, 1, none⟩) rfl _) (fun g hg e => ?_)).mono hE.size
    have h1 := (HO.out.lt g hg).1
    have h2 := HE.out
    omega
  · intro g hg
    have := (HO.out.lt g hg).2
    simpa [World.setCell] using this
  · exact ((hE.trans (HB2.out.mono hE.size)).setCell (p := ⟨w.heap.size + 1, 0, none⟩) (by show w.heap.size ≤ w.heap.size + 1; omega) _).setCell (p := ⟨w.heap.size + 1, 1, none⟩) (by show w.heap.size ≤ w.heap.size + 1; omega) _

set_option maxHeartbeats 3200000 in
set_option maxRecDepth 100000 in
theorem specL5Copy_len (v : Value) (x : Inst) (w : World) (h : Instance_at w w.heap.size v x) (hn1 : x.rels.length ≤ 1048576) (hn2 : x.facts.length ≤ 1048576) (hn3 : ∀ f ∈ x.facts, Fact_sz f ≤ 1048576) :
    Calls Tryz.prog 89 #[v] w fun e w' => ∃ u, e = .returned u ∧ Instance_own w.heap.size w'.heap.size u x w' ∧ Below w.heap.size w w' := by
  obtain ⟨P, c, Q, d, rfl⟩ := Instance_form h
  obtain ⟨V1, V2, hv, hR, hF⟩ := h
  simp only [Value.agg.injEq, Array.mk.injEq, List.cons.injEq, and_true] at hv
  obtain ⟨rfl, rfl⟩ := hv
  obtain ⟨_, _, hv2, hd1, hd2⟩ := hF.form
  injection hv2 with e1 _ e2
  subst e1 e2
  unfold maxLen at hd2
  have HA := Lib.hid (show P = none → c = 0 by obtain ⟨A', c', hv, _, _, _, hA⟩ := hR; injection hv with e1 _ e2; subst e1 e2; exact hA)
  have HF := Lib.hid hF
  have HR := Lib.hid hR
  clear hF hR
  have hE : Below w.heap.size w ((w.alloc (.cells #[.slice P x.rels.length c, .slice Q x.facts.length d] 40)).alloc (.cells #[.slice none 0 0, .slice none 0 0] 40)) := below_more (below_more (Below.refl _ _) _) _
  have HE := Lib.hid (show w.heap.size + 2 = ((w.alloc (.cells #[.slice P x.rels.length c, .slice Q x.facts.length d] 40)).alloc (.cells #[.slice none 0 0, .slice none 0 0] 40)).heap.size by simp)
  have K1 := Lib.hid (show ((w.alloc (.cells #[.slice P x.rels.length c, .slice Q x.facts.length d] 40)).alloc (.cells #[.slice none 0 0, .slice none 0 0] 40)).cell? ⟨w.heap.size, 1, none⟩ = some (.slice Q x.facts.length d) by simp [go_sem])
  have L0 := Lib.hid (show ((w.alloc (.cells #[.slice P x.rels.length c, .slice Q x.facts.length d] 40)).alloc (.cells #[.slice none 0 0, .slice none 0 0] 40)).cell? ⟨w.heap.size + 1, 0, none⟩ = some (.slice none 0 0) by simp [go_sem])
  have L1 := Lib.hid (show ((w.alloc (.cells #[.slice P x.rels.length c, .slice Q x.facts.length d] 40)).alloc (.cells #[.slice none 0 0, .slice none 0 0] 40)).cell? ⟨w.heap.size + 1, 1, none⟩ = some (.slice none 0 0) by simp [go_sem])
  have LZ := fun o => Lib.hid (show ((w.alloc (.cells #[.slice P x.rels.length c, .slice Q x.facts.length d] 40)).alloc (.cells #[.slice none 0 0, .slice none 0 0] 40)).frozen? ⟨w.heap.size + 1, o, none⟩ = false by simp [go_sem])
  have HRE := Lib.hid ((HR.out.below hE (Nat.le_refl _)).below ((Below.refl ((w.alloc (.cells #[.slice P x.rels.length c, .slice Q x.facts.length d] 40)).alloc (.cells #[.slice none 0 0, .slice none 0 0] 40)).heap.size ((w.alloc (.cells #[.slice P x.rels.length c, .slice Q x.facts.length d] 40)).alloc (.cells #[.slice none 0 0, .slice none 0 0] 40))).alloc (Nat.le_refl _) (.cells #[] 113)) hE.size)
  have HOE := Lib.hid (OwnRels.empty ((w.alloc (.cells #[.slice P x.rels.length c, .slice Q x.facts.length d] 40)).alloc (.cells #[.slice none 0 0, .slice none 0 0] 40)) ((w.alloc (.cells #[.slice P x.rels.length c, .slice Q x.facts.length d] 40)).alloc (.cells #[.slice none 0 0, .slice none 0 0] 40)).heap.size (Nat.le_refl _))
  go_enter Tryz.func89, Tryz.ntmps89
  go_wp2_with (at_builtin; refine rels_apps (r := x.rels) HOE.out rfl _ _ rfl (by simp [go_sem]) P x.rels.length c rfl rfl HRE.out HA.out (by simp; omega) (by simp) ?_; intro v1 w1 hO1 hW1 _ _; obtain ⟨P1, c1, hv1, -⟩ := hO1.at_; simp only [List.nil_append] at hv1; subst hv1)
  obtain ⟨Y, hY⟩ : ∃ Y, Y = w1.heap.size := ⟨_, rfl⟩
  have hHE := HE.out
  have hz1 : ((w.alloc (.cells #[.slice P x.rels.length c, .slice Q x.facts.length d] 40)).alloc (.cells #[.slice none 0 0, .slice none 0 0] 40)).heap.size + 1 ≤ w1.heap.size := by have := hW1.size; simpa using this
  have hsY : w.heap.size + 2 < Y := by omega
  have hbE : Below (w.heap.size + 2) ((w.alloc (.cells #[.slice P x.rels.length c, .slice Q x.facts.length d] 40)).alloc (.cells #[.slice none 0 0, .slice none 0 0] 40)) w1 := ((Below.refl _ _).alloc (by omega) (.cells #[] 113)).trans (hW1.mono (by omega))
  have k1 : w1.cell? ⟨w.heap.size, 1, none⟩ = some (.slice Q x.facts.length d) := (hbE.cell (p := ⟨w.heap.size, 1, none⟩) (by show w.heap.size < _; omega)).trans K1.out
  have l0 : w1.cell? ⟨w.heap.size + 1, 0, none⟩ = some (.slice none 0 0) := (hbE.cell (p := ⟨w.heap.size + 1, 0, none⟩) (by show w.heap.size + 1 < _; omega)).trans L0.out
  have l1 : w1.cell? ⟨w.heap.size + 1, 1, none⟩ = some (.slice none 0 0) := (hbE.cell (p := ⟨w.heap.size + 1, 1, none⟩) (by show w.heap.size + 1 < _; omega)).trans L1.out
  have lz : ∀ o, w1.frozen? ⟨w.heap.size + 1, o, none⟩ = false := fun o => (hbE.frozen (p := ⟨w.heap.size + 1, o, none⟩) (by show w.heap.size + 1 < _; omega)).trans (LZ o).out
  have hbW : Below w.heap.size w w1 := hE.trans (hbE.mono (by omega))
  have HW := Lib.hid hbW
  have HO1 := Lib.hid (show RelationS_own (w.heap.size + 2) Y (.slice P1 x.rels.length c1) x.rels w1 from ⟨(by simpa using hO1.mono (show w.heap.size + 2 ≤ _ by omega)), row_inside hO1 (by omega)⟩)
  clear hO1 hW1 hbE HE K1 L0 L1 LZ HRE HOE HR HA hbW hHE hz1 hE
  have y0 : (w1.alloc (.cells #[.slice P1 x.rels.length c1, .slice none 0 0] 40)).cell? ⟨Y, 0, none⟩ = some (.slice P1 x.rels.length c1) := by rw [hY]; simp [go_sem]
  have y1 : (w1.alloc (.cells #[.slice P1 x.rels.length c1, .slice none 0 0] 40)).cell? ⟨Y, 1, none⟩ = some (.slice none 0 0) := by rw [hY]; simp [go_sem]
  have yz : ∀ o, (w1.alloc (.cells #[.slice P1 x.rels.length c1, .slice none 0 0] 40)).frozen? ⟨Y, o, none⟩ = false := by intro o; rw [hY]; simp [go_sem]
  have hAl : Below Y w1 (w1.alloc (.cells #[.slice P1 x.rels.length c1, .slice none 0 0] 40)) := (Below.refl _ _).alloc (by omega) _
  have hsz : (w1.alloc (.cells #[.slice P1 x.rels.length c1, .slice none 0 0] 40)).heap.size = Y + 1 := by rw [hY]; simp
  rw [← hY]
  generalize w1.alloc (.cells #[.slice P1 x.rels.length c1, .slice none 0 0] 40) = W at y0 y1 yz hAl hsz ⊢
  have HSZ := Lib.hid hsz
  have HY := Lib.hid hY
  have HAL := Lib.hid hAl
  clear hsz hY hAl
  go_loopw [4] (fun i wr => ∃ k V Vs, k ≤ x.facts.length ∧ i = .int .i64 k ∧ wr.cell? ⟨Y, 0, none⟩ = some (.slice P1 x.rels.length c1) ∧ wr.cell? ⟨Y, 1, none⟩ = some V ∧ (∀ o, wr.frozen? ⟨Y, o, none⟩ = false) ∧ FactSO 57 (Y + 1) wr.heap.size V Vs (x.facts.take k) wr ∧ Hid (Chg (fun g => g = Y) W wr)) (fun i _ => x.facts.length - (intOf i).toNat)
  case atStart => exact ⟨0, _, [], by omega, rfl, y0, y1, yz, ⟨rfl, World.ownsRow_nil _ _ _ _, (fun g hg => by cases hg), (fun i h => by simp at h), List.Pairwise.nil⟩, Lib.hid (Chg.refl _ _)⟩
  case round =>
    clear y0 y1 yz
    obtain ⟨k, V, Vs, hk, rfl, y0, y1, yz, hO, HC⟩ := hrel
    have HO := Lib.hid hO
    clear hO
    have hC := HC.out
    have hYw : Y + 1 ≤ wr.heap.size := by have h1 := hC.size; rw [HSZ.out] at h1; exact h1
    have hwW : Below w.heap.size w wr := (HW.out.trans (HAL.out.mono (by omega))).trans (hC.below (fun g hg => by subst hg; omega) (by rw [HSZ.out]; omega))
    have kr : wr.cell? ⟨w.heap.size, 1, none⟩ = some (.slice Q x.facts.length d) := ((hC.cell (o := 1) (show w.heap.size < _ by rw [HSZ.out]; omega) (by omega)).trans (HAL.out.cell (p := ⟨w.heap.size, 1, none⟩) (by show w.heap.size < Y; omega))).trans k1
    by_cases hlt : k < x.facts.length
    · obtain ⟨b, off, E, rfl, hb, c0, c1', hE⟩ := FactS_at.elem (HF.out.below hwW (Nat.le_refl _)) k hlt
      have hEs : Fact_sz x.facts[k] ≤ 1048576 := hn3 _ (List.getElem_mem hlt)
      have hcon := fun wq (hq : Below wr.heap.size wr wq) => specL5Fact_any (.agg #[.int .i64 x.facts[k].rel, E]) x.facts[k] wq ⟨E, rfl, (hE.below hq (by omega)).more (by have := hq.size; omega)⟩ hEs
      have hS : Holds [(⟨Y, 1, none⟩, V), (⟨w.heap.size, 1, none⟩, .slice (some ⟨b, off, none⟩) x.facts.length d), (⟨b, off + k * 2, none⟩, .int .i64 x.facts[k].rel), (⟨b, off + k * 2 + 1, none⟩, E)] wr.drew := by
        intro p hp
        simp only [List.mem_cons, List.not_mem_nil, or_false] at hp
        rcases hp with rfl | rfl | rfl | rfl
        · exact y1
        · exact kr
        · exact c0
        · exact c1'
      have hSb : ∀ p ∈ [((⟨Y, 1, none⟩ : Addr), V), (⟨w.heap.size, 1, none⟩, .slice (some ⟨b, off, none⟩) x.facts.length d), (⟨b, off + k * 2, none⟩, .int .i64 x.facts[k].rel), (⟨b, off + k * 2 + 1, none⟩, E)], p.1.block < Y + 1 := by
        intro p hp
        simp only [List.mem_cons, List.not_mem_nil, or_false] at hp
        rcases hp with rfl | rfl | rfl | rfl <;> simp <;> omega
      have g0 := Keep.cell (h0 := hS) (a := ⟨Y, 1, none⟩) (v := V) (by simp)
      have g1 := Keep.cell (h0 := hS) (a := ⟨w.heap.size, 1, none⟩) (v := .slice (some ⟨b, off, none⟩) x.facts.length d) (by simp)
      have g2 := Keep.cell (h0 := hS) (a := ⟨b, off + k * 2, none⟩) (v := .int .i64 x.facts[k].rel) (by simp)
      have g3 := Keep.cell (h0 := hS) (a := ⟨b, off + k * 2 + 1, none⟩) (v := E) (by simp)
      have HX := Lib.hid (And.intro hE hcon)
      clear hE hcon
      go_wp2_with fail
      refine wp_region_plan (C := fun w' => ∃ u : Keep _ wr.drew hS, w' = u.now) (.still 0 (.still 1 (.still 2 (.still 3 (.still 4 (.still 5 (.still 6 (.move true 7 (.move true 8 (.move true 9 (.still 10 (.move false 11 .done .none)) .none) .none) .none)))))))) (by kernel_rfl) (by kernel_rfl) (by kernel_rfl) (fun _ => ⟨⟨_, hS⟩, rfl⟩) ?_
      iterate 7
        refine plan_look _ rfl rfl ?_
        go_big_quiet_step (fail)
        refine wpQuiet_nil ?_
      refine plan_call _ 177 _ _ _ _ _ rfl _ Tryz.func177 (by kernel_rfl) (by kernel_rfl) ?_ True.intro
      refine (HX.out.2 wr.drew (Below.refl _ _).drew).mono ?_
      rintro _ w2 ⟨u, rfl, ⟨U, rfl, hU⟩, hb2⟩
      have hb2' : Below wr.heap.size wr w2 := (Below.refl _ _).drew.trans hb2
      refine ⟨_, rfl, fun _ => ⟨⟨_, hS.below hb2 (fun p hp => by have := hSb p hp; show _ < wr.heap.size; omega)⟩, rfl⟩, ?_⟩
      refine plan_put ?_ (by simp only [Act.put, List.setIfInBounds_toArray, List.set_cons_succ, List.set_cons_zero]; rfl)
      have hz2 := hb2'.size
      obtain ⟨PU, cu, rfl, -⟩ := hU.1.at_
      have HB2 := Lib.hid hb2'
      have HD := Lib.hid hb2
      have HU := Lib.hid hU
      clear hb2 hb2' hU
      have hK : ∀ wq, Below (Y + 1) wr.drew wq → Holds _ wq := fun wq hq => hS.below hq hSb
      refine plan_value (u := .slice (some ⟨w2.heap.size, 0, none⟩) 1 1) (w' := w2.alloc (.cells #[.int .i64 x.facts[k].rel, .slice PU x.facts[k].vals.length cu] 57)) _ rfl rfl rfl (by simp [go_sem]) (fun _ => ⟨⟨_, hK _ ((HD.out.alloc hz2 _).mono hYw)⟩, rfl⟩) ?_ True.intro
      refine plan_put ?_ (by simp only [Act.put, List.setIfInBounds_toArray, List.set_cons_succ, List.set_cons_zero]; rfl)
      have HO3 := Lib.hid ((HO.out.below HB2.out (Nat.le_refl _)).below ((Below.refl wr.heap.size w2).alloc hz2 (.cells #[.int .i64 x.facts[k].rel, .slice PU x.facts[k].vals.length cu] 57)) (Nat.le_refl _))
      have hVl := HO.out.len
      have hr : SliceAt pairCells (w2.alloc (.cells #[.int .i64 x.facts[k].rel, .slice PU x.facts[k].vals.length cu] 57)) (w2.heap.size + 1) (.slice (some ⟨w2.heap.size, 0, none⟩) [(x.facts[k].rel, Value.slice PU x.facts[k].vals.length cu)].length 1) [(x.facts[k].rel, Value.slice PU x.facts[k].vals.length cu)] := by
        refine ⟨_, _, rfl, Nat.le_refl _, by simp [maxLen], ?_, fun h => by cases h⟩
        intro _
        refine ⟨_, _, rfl, by omega, ?_⟩
        intro j u hu
        rw [Nat.zero_add, box_cell]
        simpa [pairCells] using hu
      refine plan_app pairCells 2 32 (r := [(x.facts[k].rel, Value.slice PU x.facts[k].vals.length cu)]) (fun p hp u hu => by simp only [List.mem_singleton] at hp; subst hp; simp [pairCells] at hu; rcases hu with rfl | rfl <;> rfl) pairCells_len _ rfl rfl Tryz.underlying38 infoFct rfl (by decide) HO3.out.row _ _ rfl rfl ⟨w2.heap.size, 0, none⟩ 1 1 rfl rfl hr (by have := pairs_len hVl; simp at *; omega) (by have := pairs_len hVl; simp at *; omega) (by simp; omega) ?_ True.intro
      intro v4 w4 hrow hB4 hg4 _
      have hbA : Below (Y + 1) wr w4 := ((HB2.out.mono hYw).alloc (by omega) _).trans hB4
      have hbD : Below (Y + 1) wr.drew w4 := ((HD.out.mono hYw).alloc (by omega) _).trans hB4
      have hz4 : w2.heap.size + 1 ≤ w4.heap.size := by have := hB4.size; simpa using this
      have hFS := FactSO.snoc (e := 57) (by decide) (x := x.facts[k]) (C' := w4.heap.size) HO3.out (by omega) hrow hg4 (row_inside hrow (Nat.le_refl _)) ((HU.out.below ((Below.refl w2.heap.size w2).alloc (Nat.le_refl _) _) (Nat.le_refl _)).mono hYw (by omega)) (fun i hi g h1 h2 => by
        have q1 : wr.heap.size ≤ g := (HU.out.1.lt g h2).1
        have q2 := (HO.out.el i (by have := HO.out.len; omega) hi).2 g h1
        omega)
      have hlk : (x.facts.take k ++ [x.facts[k]]).length = k + 1 := by rw [← List.take_succ_eq_append_getElem hlt]; simp; omega
      obtain ⟨P4, c4, rfl, -⟩ := (hFS.at_ (Nat.le_refl _)).form
      have z0 := (hbA.cell (p := ⟨Y, 0, none⟩) (Nat.lt_succ_self _)).trans y0
      have z1 := (hbA.cell (p := ⟨Y, 1, none⟩) (Nat.lt_succ_self _)).trans y1
      have zz := fun o => (hbA.frozen (p := ⟨Y, o, none⟩) (Nat.lt_succ_self _)).trans (yz o)
      have HFS := Lib.hid hFS
      have HBA := Lib.hid hbA
      have HLK := Lib.hid hlk
      refine ⟨fun _ => ⟨⟨_, hK _ hbD⟩, rfl⟩, ?_⟩
      clear hFS hbA hbD hrow hB4 hg4 hr hK g0 g1 g2 g3 hVl y0 y1 yz kr c0 c1' hlk
      refine plan_put ?_ (by simp only [Act.put, List.setIfInBounds_toArray, List.set_cons_succ, List.set_cons_zero]; rfl)
      refine plan_look _ rfl rfl ?_
      go_big_quiet_step (fail)
      refine wpQuiet_nil ?_
      refine plan_skip (w' := w4.setCell ⟨Y, 1, none⟩ (.slice P4 (x.facts.take k ++ [x.facts[k]]).length c4)) _ rfl rfl rfl (by simp [go_sem, z1, zz]) (fun e => by cases e) ?_ True.intro
      refine plan_put ?_ (by simp only [Act.put]; rfl)
      refine plan_done ?_
      go_wp2
      go_roundw
      case rel =>
        refine ⟨k + 1, .slice P4 (min (k + 1) x.facts.length) c4, Vs ++ [.slice PU x.facts[k].vals.length cu], by omega, by go_num, by simp [go_sem, z0], by simp [go_sem, z1], fun o => by simp [zz], ?_, Lib.hid ((HC.out.then_below (by rw [HSZ.out]; exact HBA.out)).setCell (p := ⟨Y, 1, none⟩) rfl _)⟩
        rw [show min (k + 1) x.facts.length = (x.facts.take k ++ [x.facts[k]]).length by rw [HLK.out]; omega, List.take_succ_eq_append_getElem hlt]
        exact (HFS.out.chg (((Chg.refl (Mid Y (Y + 1)) w4).setCell (p := ⟨Y, 1, none⟩) ⟨Nat.le_refl _, Nat.lt_succ_self _⟩ _)) (.inr (Nat.le_refl _))).mono (Nat.le_refl _) (by simp [World.setCell])
      case measure => simp [intOf]; omega
    · obtain rfl : k = x.facts.length := by omega
      have hO' : FactSO 57 (Y + 1) wr.heap.size V Vs x.facts wr := by simpa using HO.out
      obtain ⟨Q2, d2, rfl, -⟩ := (hO'.at_ (Nat.le_refl _)).form
      have m0 : wr.cell? ⟨w.heap.size + 1, 0, none⟩ = some (.slice none 0 0) := ((hC.cell (o := 0) (show w.heap.size + 1 < _ by rw [HSZ.out]; omega) (by omega)).trans (HAL.out.cell (p := ⟨w.heap.size + 1, 0, none⟩) (by show w.heap.size + 1 < Y; omega))).trans l0
      have m1 : wr.cell? ⟨w.heap.size + 1, 1, none⟩ = some (.slice none 0 0) := ((hC.cell (o := 1) (show w.heap.size + 1 < _ by rw [HSZ.out]; omega) (by omega)).trans (HAL.out.cell (p := ⟨w.heap.size + 1, 1, none⟩) (by show w.heap.size + 1 < Y; omega))).trans l1
      have mz : ∀ o, wr.frozen? ⟨w.heap.size + 1, o, none⟩ = false := fun o => ((hC.frozen (o := o) (show w.heap.size + 1 < _ by rw [HSZ.out]; omega) (by omega)).trans (HAL.out.frozen (p := ⟨w.heap.size + 1, o, none⟩) (by show w.heap.size + 1 < Y; omega))).trans (lz o)
      have HO' := Lib.hid hO'
      have HwW := Lib.hid hwW
      have HST : ∀ u1 u2, Chg (Mid (w.heap.size + 1) (w.heap.size + 2)) wr ((wr.setCell ⟨w.heap.size + 1, 0, none⟩ u1).setCell ⟨w.heap.size + 1, 1, none⟩ u2) := fun u1 u2 => ((Chg.refl _ wr).setCell (p := ⟨w.heap.size + 1, 0, none⟩) (show w.heap.size + 1 ≤ w.heap.size + 1 ∧ w.heap.size + 1 < w.heap.size + 2 by omega) _).setCell (p := ⟨w.heap.size + 1, 1, none⟩) (show w.heap.size + 1 ≤ w.heap.size + 1 ∧ w.heap.size + 1 < w.heap.size + 2 by omega) _
      clear hO' hwW hC
      go_wp2
      refine bodyPost_ret (v := .agg #[.slice P1 x.rels.length c1, .slice Q2 x.facts.length d2]) (by simp [results, Tryz.results89, go_sem, m0, m1]) rfl ⟨_, rfl, ⟨_, _, rfl, ?_, ?_⟩, ?_⟩
      · exact (((HO1.out.below HAL.out (Nat.le_refl _)).chg (B' := Y) (C' := Y + 1) (HC.out.mono fun g hg => by subst hg; exact ⟨Nat.le_refl _, Nat.lt_succ_self _⟩) (.inl (Nat.le_refl _))).chg (HST _ _) (.inr (Nat.le_refl _))).mono (by omega) (by simp [World.setCell]; omega)
      · exact (FactS_own.chg ⟨Vs, HO'.out⟩ (HST _ _) (.inr (by omega))).mono (by omega) (by simp [World.setCell])
      · exact (HwW.out.setCell (p := ⟨w.heap.size + 1, 0, none⟩) (by show w.heap.size ≤ w.heap.size + 1; omega) _).setCell (p := ⟨w.heap.size + 1, 1, none⟩) (by show w.heap.size ≤ w.heap.size + 1; omega) _
theorem factSz_le (l : List Fct) : ∀ f ∈ l, Fact_sz f ≤ valsLen l := by
  intro f hf
  obtain ⟨i, hi, rfl⟩ := List.getElem_of_mem hf
  have h1 := valsLen_take l i hi
  have h2 := valsLen_le l (i + 1)
  unfold Fact_sz; omega
theorem specL5Copy_any (v : Value) (x : Inst) (w : World) (h : Instance_at w w.heap.size v x) (hn : Instance_sz x ≤ 1048576) :
    Calls Tryz.prog 89 #[v] w fun e w' => ∃ u, e = .returned u ∧ Instance_own w.heap.size w'.heap.size u x w' ∧ Below w.heap.size w w' := by
  have hsz : x.rels.length ≤ 1048576 ∧ x.facts.length + valsLen x.facts ≤ 1048576 := by unfold Instance_sz RelationS_sz FactS_sz at hn; omega
  exact specL5Copy_len v x w h hsz.1 (by omega) (fun f hf => by have := factSz_le x.facts f hf; omega)

end Go.Proofs.YtmecdjincmkofaaGreatDoor
