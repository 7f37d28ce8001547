/-
  Walks and plain lemmas for the laws of this seat: what single Go functions return, for every argument.
-/
import Derived.Test.YtmecdjincmkofaaGreatDoorShelf
import Derived.Lib.SplitLaws
import Derived.Test.YtmecdjincmkofaaGreatDoorBase
import Derived.Test.YtmecdjincmkofaaGreatDoorRelsC
import Derived.Test.YtmecdjincmkofaaGreatDoorTyDepS
import Derived.Test.YtmecdjincmkofaaGreatDoorFmtF
import Derived.Test.YtmecdjincmkofaaGreatDoorDepSC
import Derived.Test.YtmecdjincmkofaaGreatDoorHasI
import Derived.Test.YtmecdjincmkofaaGreatDoorSideI
import Derived.Test.YtmecdjincmkofaaGreatDoorReadD2
namespace Go.Proofs.YtmecdjincmkofaaGreatDoor
open Go.RowKit

set_option maxHeartbeats 3200000 in
set_option maxRecDepth 100000 in
theorem implAreValidDeps_any (v : Value) (l : List Rel) (u : Value) (xs : List Dep) (w : World) (hl : RelsAt w w.heap.size v l) (h : DependencyS_at w w.heap.size u xs) (hn : DependencyS_sz xs ≤ 1048576) :
    Calls Tryz.prog 16 #[v, u] w fun e w' => e = .returned (.bool (depsOk l xs)) ∧ Below w.heap.size w w' := by
  have HL := Lib.hid hl
  have HX := Lib.hid h
  obtain ⟨A, a0, rfl, hlc, hcm, -⟩ := hl
  obtain ⟨A', c, rfl, hc1, hc2⟩ := h.form
  unfold maxLen at hc2
  have hel : ∀ k (h : k < xs.length), Dependency_sz xs[k] ≤ 1048576 := fun k h => by
    have h1 := depsLen_take xs k h
    have h2 := depsLen_le xs (k + 1)
    unfold DependencyS_sz at hn; omega
  clear h
  have hcon := fun b h => implAreValid_at2 l b h (.slice A l.length a0) w HL.out
  cases hr : validRels l with
  | false =>
    have HV := Lib.hid (show depsOk l xs = false by unfold depsOk; rw [hr]; rfl)
    replace hcon := hcon false hr
    clear hr
    go_enter Tryz.func16, Tryz.ntmps16
    go_wp2_with (go_at_call 42; refine hcon.mono ?_; rintro e w1 ⟨rfl, hb1⟩)
    go_ret
    exact ⟨ret_bool HV.out.symm, hb1⟩
  | true =>
    replace hcon := hcon true hr
    by_cases h5 : (5 : Int) < xs.length
    · have HV := Lib.hid (show depsOk l xs = false by unfold depsOk; rw [hr, decide_eq_false (by omega)]; rfl)
      have hd5 : decide ((5 : Int) < xs.length) = true := decide_eq_true h5
      clear hr
      go_enter Tryz.func16, Tryz.ntmps16
      go_wp2_with (go_at_call 42; refine hcon.mono ?_; rintro e w1 ⟨rfl, hb1⟩)
      go_ret
      exact ⟨ret_bool HV.out.symm, hb1⟩
    · have HA := Lib.hid (show depsOk l xs = xs.all (depOk l) by unfold depsOk; rw [hr, decide_eq_true (by omega)]; rfl)
      have hd5 : decide ((5 : Int) < xs.length) = false := decide_eq_false h5
      have H5 := Lib.hid h5
      clear hr h5
      go_enter Tryz.func16, Tryz.ntmps16
      go_wp2_with (go_at_call 42; refine hcon.mono ?_; rintro e w1 ⟨rfl, hb1⟩)
      clear hcon
      go_loopw [17] (fun i wr => ∃ j : Nat, j ≤ xs.length ∧ i = .int .i64 j ∧ Hid (AllTo (depOk l) xs j) ∧ Below w.heap.size w wr) (fun i _ => xs.length - (intOf i).toNat)
      case atStart => exact ⟨0, by omega, rfl, Lib.hid (AllTo.zero _ _), hb1⟩
      case round =>
        obtain ⟨j, hj, rfl, HT, hW⟩ := hrel
        have hz := hW.size
        by_cases hlt : j < xs.length
        · obtain ⟨b, off, V, U, rfl, hb, c0, c1, c2, c3, c4, hV, hU⟩ := DependencyS_at.elem HX.out j hlt
          obtain ⟨PV, cV, rfl, -, -⟩ := hV.form
          obtain ⟨PU, cU, rfl, -, -⟩ := hU.form
          replace c0 := (hW.cell (p := ⟨b, off + j * 5, none⟩) hb).trans c0
          replace c1 := (hW.cell (p := ⟨b, off + j * 5 + 1, none⟩) hb).trans c1
          replace c2 := (hW.cell (p := ⟨b, off + j * 5 + 2, none⟩) hb).trans c2
          replace c3 := (hW.cell (p := ⟨b, off + j * 5 + 3, none⟩) hb).trans c3
          replace c4 := (hW.cell (p := ⟨b, off + j * 5 + 4, none⟩) hb).trans c4
          have hE : Below wr.heap.size wr (wr.alloc (.cells #[.slice PV xs[j].body.length cV, .slice PU xs[j].head.length cU, .bool xs[j].egd, .int .i64 xs[j].left, .int .i64 xs[j].right] 37)) := below_more (Below.refl _ _) _
          have hWE := hW.trans (hE.mono hz)
          have hcon := fun (q : Bool) (hq : depOk l xs[j] = q) => implIsValidDependency_at l xs[j] q hq (.slice A l.length a0) (.agg #[.slice PV xs[j].body.length cV, .slice PU xs[j].head.length cU, .bool xs[j].egd, .int .i64 xs[j].left, .int .i64 xs[j].right]) _ ((HL.out.below hWE (Nat.le_refl _)).more hWE.size) ⟨_, _, rfl, (hV.below hWE (Nat.le_refl _)).more hWE.size, (hU.below hWE (Nat.le_refl _)).more hWE.size⟩ (hel j hlt)
          have HWE := Lib.hid hWE
          clear hE hWE hV hU
          cases hv : depOk l xs[j] with
          | false =>
            have HV := Lib.hid (HA.out.trans (all_no hlt hv))
            replace hcon := hcon false hv
            clear hv
            go_wp2_with (go_at_call 82; refine hcon.mono ?_; rintro e w3 ⟨rfl, hb3⟩)
            go_ret
            exact ⟨ret_bool HV.out.symm, HWE.out.trans (hb3.mono HWE.out.size)⟩
          | true =>
            have HN := Lib.hid (HT.out.next hlt hv)
            replace hcon := hcon true hv
            clear hv
            go_wp2_with (go_at_call 82; refine hcon.mono ?_; rintro e w3 ⟨rfl, hb3⟩)
            go_roundw
            case rel => exact ⟨j + 1, by omega, by go_num, HN, HWE.out.trans (hb3.mono HWE.out.size)⟩
            case measure => simp [intOf]; omega
        · obtain rfl : j = xs.length := by omega
          have HV := Lib.hid (HA.out.trans HT.out.full)
          go_wp2
          go_ret
          exact ⟨ret_bool HV.out.symm, hW⟩
theorem implAreValidDependencies_c (v : Value) (l : List Rel) (u : Value) (x : List Dep) (w : World) (h : RelationS_at w w.heap.size v l) (_ : RelationS_wf l) (_ : RelationS_sz l ≤ 1048576) (h' : DependencyS_at w w.heap.size u x) (_ : DependencyS_wf x) (hn : DependencyS_sz x ≤ 1048576) :
    Calls Tryz.prog 16 #[v, u] w fun e w' => e = .returned (.bool (depsOk l x)) ∧ Below w.heap.size w w' := implAreValidDeps_any v l u x w h h' hn

/-- the pieces between semicolons, at most six -/
def GivesParts6 (s : ByteArray) (w : World) (e : Ending) (w' : World) : Prop := ∃ v L, e = .returned v ∧ dataOf L = depPcs s.data.toList ∧ StrsAt w' w'.heap.size v L ∧ Below w.heap.size w w'
theorem split6_any (s : ByteArray) (w : World) (hs : s.size ≤ 1048576) (hm : MaxL w) :
    Calls Tryz.prog 74 #[.string s, .string ⟨#[59]⟩, .int .i64 6] w (GivesParts6 s w) := by
  obtain ⟨m, hm⟩ := hm
  have h1 : ByteArray.size ⟨#[59]⟩ = 1 := rfl
  refine (Tryz.strings_SplitN s ⟨#[59]⟩ 6 m w (by omega) hm (by omega) (by omega) (by omega)).mono ?_
  rintro e w' ⟨rfl, rfl⟩
  have hlen := Lib.splitB_length_le ⟨#[59]⟩ 0 (min 6 (s.size + 1) - 1) s
  refine ⟨_, Lib.splitB ⟨#[59]⟩ 0 (min 6 (s.size + 1) - 1) s, rfl, ?_, ?_, (Below.refl _ _).alloc (Nat.le_refl _) _⟩
  · unfold depPcs
    rw [← splitK_cutN]
    have e := Lib.splitB_data ⟨#[59]⟩ 0 (min 6 (s.size + 1) - 1) s
    simpa [dataOf] using e
  · generalize Lib.splitB ⟨#[59]⟩ 0 (min 6 (s.size + 1) - 1) s = L at *
    refine ⟨_, _, rfl, by omega, by unfold maxLen; omega, fun _ => ⟨w.heap.size, 0, rfl, by simp, fun j u hu => ?_⟩, fun h => by cases h⟩
    rw [Nat.zero_add, box_cell]
    rw [flat_str] at hu
    have hj := (List.getElem?_eq_some_iff.1 hu).1
    unfold Lib.cellsOf
    rw [List.getElem?_toArray, List.getElem?_append_left hj]
    exact hu

theorem DependencySO.nil0 (e : TypeId) (B C : Nat) (w : World) : DependencySO e B C (.slice none 0 0) [] [] w := ⟨rfl, World.ownsRow_nil w B _ _, (fun g hg => by cases hg), (fun i h => absurd h (by simp)), List.Pairwise.nil⟩
set_option maxHeartbeats 3200000 in
set_option maxRecDepth 100000 in
theorem implParseDeps_any (v : Value) (l : List Rel) (s : ByteArray) (w : World) (hl : RelsAt w w.heap.size v l) (hs : s.size ≤ 1048576) (ht : Tab w) (hv : ErrVars w) (hm : MaxL w) :
    Calls Tryz.prog 12 #[v, .string s] w fun e w' => ∃ u, e = .returned (.tuple #[u, .bool (ParseDependencies_ok l s)]) ∧ DependencyS_own w.heap.size w'.heap.size u (ParseDependencies_r0 l s) w' ∧ Below w.heap.size w w' := by
  have HLR := Lib.hid hl
  obtain ⟨A0, a0, rfl, -⟩ := hl
  by_cases h0 : s.data.toList = []
  · have hd : depsOk l [] = validRels l := by unfold depsOk; simp
    have HP := Lib.hid (show ParseDependencies_r0 l s = [] ∧ ParseDependencies_ok l s = validRels l by
      unfold ParseDependencies_r0 ParseDependencies_ok
      rw [parseDeps_nil h0, hd]
      cases validRels l <;> exact ⟨rfl, rfl⟩)
    have hvr := implAreValid_at2 l _ rfl (.slice A0 l.length a0) w HLR.out
    have hse : (s.toList == []) = true := by rw [ByteArray.toList_eq, h0]; rfl
    clear h0 hd
    go_enter Tryz.func12, Tryz.ntmps12
    go_wp2_with fail
    refine hvr.mono ?_
    rintro e w1 ⟨rfl, hb1⟩
    go_wp2
    go_ret2
    exact ⟨_, by rw [HP.out.2]; rfl, by rw [HP.out.1]; exact ⟨[], DependencySO.nil0 _ _ _ _⟩, hb1⟩
  · have hse : (s.toList == []) = false := by rw [ByteArray.toList_eq, beq_eq_false_iff_ne]; exact h0
    have HE := Lib.hid (implDeps_eq l s.data.toList h0)
    clear h0
    go_enter Tryz.func12, Tryz.ntmps12
    go_wp2_with fail
    refine (split6_any s _ hs hm).mono ?_
    rintro e w1 ⟨vP, L, rfl, hL, hP, hb1⟩
    have hz1 := hb1.size
    have hPl : (depPcs s.data.toList).length = L.length := by rw [← hL, dataOf_len]
    have hLl : L.length ≤ 6 := by
      rw [← hPl]
      unfold depPcs
      rw [cutN_len]
      omega
    have hLt : ∀ (k : Nat) (h : k < L.length), L[k].size ≤ 1048576 := by
      intro k h
      have h1 := cutN_piece 59 (min 6 (s.data.toList.length + 1) - 1) s.data.toList (L[k].data.toList) (by
        show L[k].data.toList ∈ depPcs s.data.toList
        rw [← hL]
        exact List.mem_map.2 ⟨_, List.getElem_mem h, rfl⟩)
      simp at h1; omega
    have HPT := Lib.hid hP
    obtain ⟨A, c, rfl, hc1, hc2, -⟩ := hP
    unfold maxLen at hc2
    have HLd := Lib.hid hL
    have HLt := Lib.hid hLt
    have HPl := Lib.hid hPl
    have HB1 := Lib.hid hb1
    clear hL hLt hPl hb1
    go_wp2
    go_loopw [6, 18] (fun o i wr => ∃ (n : Nat) (Xs : List DepX) (xs : List Dep), n ≤ L.length ∧ i = .int .i64 n ∧ Hid (xs.length = n) ∧ Hid (toDeps l ((depPcs s.data.toList).take n) = some xs) ∧ Hid (DependencySO 37 w1.heap.size wr.heap.size o Xs xs wr) ∧ Below w1.heap.size w1 wr) (fun _ i _ => L.length - (intOf i).toNat)
    case atStart => exact ⟨0, [], [], by omega, rfl, Lib.hid rfl, Lib.hid rfl, Lib.hid (DependencySO.nil0 _ _ _ _), Below.refl _ _⟩
    case round =>
      obtain ⟨n, Xs, xs, hn, rfl, HXl, HTD, HO, hW⟩ := hrel
      have hz := hW.size
      have hWw := HB1.out.trans (hW.mono hz1)
      obtain ⟨oP, oc, rfl, -, -⟩ := (HO.out.at_ (Nat.le_refl _)).form
      by_cases hlt : n < L.length
      · have hnc : n < (depPcs s.data.toList).length := by rw [HPl.out]; exact hlt
        obtain ⟨b, off, rfl, hb, hc⟩ := StrsAt.elem (HPT.out.below hW (Nat.le_refl _)) n hlt
        have HK : Hid (L[n].data.toList = (depPcs s.data.toList)[n]) := Lib.hid (by simp [← HLd.out, dataOf])
        have hts := HLt.out n hlt
        generalize L[n] = t at *
        have hpd := implParseDep_any (.slice A0 l.length a0) l t wr ((HLR.out.below hWw (Nat.le_refl _)).more hWw.size) hts (ht.below hWw) (hv.below hWw) (hm.below hWw)
        go_wp2_with fail
        refine hpd.mono ?_
        rintro e w2 ⟨X, rfl, hX, hb2⟩
        have hz2 := hb2.size
        have hW2 := hWw.trans (hb2.mono hWw.size)
        have hok := parseDep_ok_is (l := l) (s := t) rfl
        obtain ⟨Y1, y1, Y2, y2, hY1, hY2⟩ := hX.vals
        rw [hY1, hY2]
        have HY := Lib.hid (And.intro hY1 hY2)
        have HX := Lib.hid hX
        have HO2 := Lib.hid (HO.out.below hb2 (Nat.le_refl _))
        have HB2 := Lib.hid (hW.trans (hb2.mono hz))
        clear hpd hY1 hY2 hX hc
        cases hq : ParseDependency_ok l t with
        | false =>
          rw [hq] at hok
          have HV := Lib.hid (parseDeps_none (HE.out.trans (implDeps_stop n hnc (by rw [← HK.out]; exact hok.2 rfl))))
          clear hok hq
          generalize ParseDependency_r0 l t = x at *
          have hfin : Below w.heap.size w (w2.alloc (.cells #[.slice Y1 x.body.length y1, .slice Y2 x.head.length y2, .bool x.egd, .int .i64 x.left, .int .i64 x.right] 37)) := hW2.alloc hW2.size _
          have HF := Lib.hid hfin
          clear hfin
          go_wp2
          go_ret2
          exact ⟨_, by rw [HV.out.2]; rfl, by rw [HV.out.1]; exact ⟨[], DependencySO.nil0 _ _ _ _⟩, HF.out⟩
        | true =>
          rw [hq] at hok
          have HP := Lib.hid (hok.1 rfl)
          have HTN := Lib.hid (show toDeps l ((depPcs s.data.toList).take (n + 1)) = some (xs ++ [ParseDependency_r0 l t]) by
            rw [List.take_succ_eq_append_getElem hnc]
            exact toDeps_snoc _ _ _ _ HTD.out (by rw [← HK.out]; exact HP.out))
          clear hok hq
          generalize ParseDependency_r0 l t = x at *
          obtain ⟨W, hWe⟩ : ∃ W, W = w2.alloc (.cells #[.slice Y1 x.body.length y1, .slice Y2 x.head.length y2, .bool x.egd, .int .i64 x.left, .int .i64 x.right] 37) := ⟨_, rfl⟩
          have hAl : Below w2.heap.size w2 W := by rw [hWe]; exact below_more (Below.refl _ _) _
          have hWs : W.heap.size = w2.heap.size + 1 := by rw [hWe]; simp
          have HOW := Lib.hid ((HO2.out.mono (Nat.le_refl _) hz2).below hAl (Nat.le_refl _))
          have HXW := Lib.hid (HX.out.below hAl (Nat.le_refl _))
          have HBW := Lib.hid (HB2.out.trans (hAl.mono HB2.out.size))
          have HWs := Lib.hid hWs
          have hdl := dZip_len (l := xs) (Ps := Xs.map DepX.vals) (by rw [List.length_map, HO2.out.len])
          have hbd1 : ((dZip xs (Xs.map DepX.vals)).length + 1) * 72 ≤ 140737488355328 := by rw [hdl, HXl.out]; omega
          have hbd2 : (dZip xs (Xs.map DepX.vals)).length < 140737488355328 := by rw [hdl, HXl.out]; omega
          have hbd3 : w1.heap.size ≤ W.heap.size := HBW.out.size
          clear hdl hAl hWs
          have k0 : W.cell? ⟨w2.heap.size, 0, none⟩ = some (.slice Y1 x.body.length y1) := by rw [hWe]; simp [go_sem]
          have k1 : W.cell? ⟨w2.heap.size, 1, none⟩ = some (.slice Y2 x.head.length y2) := by rw [hWe]; simp [go_sem]
          have k2 : W.cell? ⟨w2.heap.size, 2, none⟩ = some (.bool x.egd) := by rw [hWe]; simp [go_sem]
          have k3 : W.cell? ⟨w2.heap.size, 3, none⟩ = some (.int .i64 x.left) := by rw [hWe]; simp [go_sem]
          have k4 : W.cell? ⟨w2.heap.size, 4, none⟩ = some (.int .i64 x.right) := by rw [hWe]; simp [go_sem]
          go_upto_region 10 with fail
          rw [← hWe]
          clear hWe
          go_wp2_with (at_builtin; refine wp_own_app_one dCells 5 72 dCells_len Tryz.underlying25 infoDep rfl (by decide) HOW.out.row rfl _ _ rfl rfl ⟨.slice Y1 x.body.length y1, .slice Y2 x.head.length y2, x.egd, x.left, x.right⟩ (fun u hu => by simp [dCells] at hu; rcases hu with rfl | rfl | rfl | rfl | rfl <;> rfl) 1 rfl hbd1 hbd2 hbd3 ?_; intro v8 w8 hrow hB8 hg8)
          have hz8 := hg8.size
          have hre : (⟨.slice Y1 x.body.length y1, .slice Y2 x.head.length y2, x.egd, x.left, x.right⟩ : DepC) = depC x X.vals := by
            unfold depC DepX.vals
            rw [HY.out.1, HY.out.2]
          rw [hre] at hrow
          have hFS := DependencySO.snoc (e := 37) (by decide) (by decide) (x := x) (X := X) (C' := w8.heap.size) HOW.out (by have := HWs.out; omega) hrow hg8 (row_inside hrow (Nat.le_refl _)) (HXW.out.mono (by omega) (by have := HWs.out; omega)) (fun i hi q h1 h2 => by
            have h3 := (HX.out.foot q h2).1
            have h4 := ((HO.out.el i (by have := HO.out.len; omega) hi).foot q h1).2
            omega)
          have HFS := Lib.hid hFS
          clear hre hrow hFS
          go_roundw
          case rel => exact ⟨n + 1, Xs ++ [X], xs ++ [x], by omega, by go_num, Lib.hid (by rw [List.length_append, HXl.out]; rfl), HTN, HFS, HBW.out.trans hB8⟩
          case measure => simp [intOf]; omega
      · obtain rfl : n = L.length := by omega
        have hT : toDeps l (depPcs s.data.toList) = some xs := by
          have := HTD.out
          rwa [List.take_of_length_le (by rw [HPl.out]; exact Nat.le_refl _)] at this
        have HI := Lib.hid (HE.out.trans (implDeps_end hT))
        have hsz : DependencyS_sz xs ≤ 1048576 := by
          have h1 := depsSz_ok xs (toDeps_back _ _ hT).2
          have h2 := HXl.out
          unfold DependencyS_sz
          omega
        have hAV := implAreValidDeps_any (.slice A0 l.length a0) l (.slice oP xs.length oc) xs wr ((HLR.out.below hWw (Nat.le_refl _)).more hWw.size) (HO.out.at_ (Nat.le_refl _)) hsz
        clear hT hsz
        cases hok : depsOk l xs with
        | false =>
          rw [hok] at hAV
          have HV := Lib.hid (parseDeps_none (HI.out.trans (if_neg (by rw [hok]; simp))))
          clear hok
          go_wp2_with fail
          refine hAV.mono ?_
          rintro e w9 ⟨rfl, hb9⟩
          have hW9 := hWw.trans (hb9.mono hWw.size)
          clear hAV
          go_wp2
          go_ret2
          exact ⟨_, by rw [HV.out.2]; rfl, by rw [HV.out.1]; exact ⟨[], DependencySO.nil0 _ _ _ _⟩, hW9⟩
        | true =>
          rw [hok] at hAV
          have HV := Lib.hid (parseDeps_some (HI.out.trans (if_pos hok)))
          clear hok
          go_wp2_with fail
          refine hAV.mono ?_
          rintro e w9 ⟨rfl, hb9⟩
          have hW9 := hWw.trans (hb9.mono hWw.size)
          clear hAV
          go_wp2
          go_ret2
          exact ⟨_, by rw [HV.out.2]; rfl, by rw [HV.out.1]; exact ⟨Xs, (HO.out.below hb9 (Nat.le_refl _)).mono hz1 hb9.size⟩, hW9⟩
theorem parseDeps_sz (l : List Rel) (s : ByteArray) : DependencyS_sz (ParseDependencies_r0 l s) ≤ 1048576 := by
  unfold ParseDependencies_r0
  cases h : parseDeps l s.data.toList with
  | none => show DependencyS_sz [] ≤ _; decide
  | some xs =>
    have h1 := depsOk_mem ((parseDeps_iff l _ xs).1 h).1
    have h2 := depsSz_ok xs h1.2.2
    show DependencyS_sz xs ≤ _
    unfold DependencyS_sz
    omega
theorem implParseDependencies_c (v : Value) (l : List Rel) (s : ByteArray) (w : World) (h : RelationS_at w w.heap.size v l) (_ : RelationS_wf l) (_ : RelationS_sz l ≤ 1048576) (hs : s.size ≤ 1048576) (ht : Tab w) (hv : ErrVars w) (hm : MaxL w) :
    Calls Tryz.prog 12 #[v, .string s] w fun e w' => ∃ r0, e = .returned (.tuple #[r0, .bool (ParseDependencies_ok l s)]) ∧ DependencyS_own w.heap.size w'.heap.size r0 (ParseDependencies_r0 l s) w' ∧ DependencyS_sz (ParseDependencies_r0 l s) ≤ 1048576 ∧ Below w.heap.size w w' :=
  (implParseDeps_any v l s w h hs ht hv hm).mono fun _ _ ⟨u, he, ho, hb⟩ => ⟨u, he, ho, parseDeps_sz l s, hb⟩

end Go.Proofs.YtmecdjincmkofaaGreatDoor
