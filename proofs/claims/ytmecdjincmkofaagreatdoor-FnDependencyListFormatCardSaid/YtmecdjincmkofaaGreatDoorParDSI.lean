/-
  Walks and plain lemmas for the laws of this seat: what single Go functions return, for every argument.
-/
import Derived.Test.YtmecdjincmkofaaGreatDoorShelf
import Derived.Lib.SplitLaws
import Derived.Test.YtmecdjincmkofaaGreatDoorBase
import Derived.Test.YtmecdjincmkofaaGreatDoorFmtS
import Derived.Test.YtmecdjincmkofaaGreatDoorMem
import Derived.Test.YtmecdjincmkofaaGreatDoorTyAtom
import Derived.Test.YtmecdjincmkofaaGreatDoorTyDepS
import Derived.Test.YtmecdjincmkofaaGreatDoorFmtV
import Derived.Test.YtmecdjincmkofaaGreatDoorVarsM
import Derived.Test.YtmecdjincmkofaaGreatDoorFmtDI
import Derived.Test.YtmecdjincmkofaaGreatDoorFactVI
import Derived.Test.YtmecdjincmkofaaGreatDoorParDI
namespace Go.Proofs.YtmecdjincmkofaaGreatDoor
open Go.RowKit

/-- the pieces between semicolons, at most six -/
def GivesParts6 (s : ByteArray) (w : World) (e : Ending) (w' : World) : Prop := ∃ v L, e = .returned v ∧ dataOf L = depPcs s.data.toList ∧ StrsAt w' w'.heap.size v L ∧ Below w.heap.size w w'
theorem split6_any (s : ByteArray) (w : World) (hs : s.size ≤ 1048576) (hm : MaxL w) :
    Calls Tryz.prog 74 #[.string s, .string ⟨#[59]⟩, .int .i64 6] w (GivesParts6 s w) := by
  obtain ⟨m, hm⟩ := hm
  have h1 : ByteArray.size ⟨#[59]⟩ = 1 := rfl
  refine (Tryz.strings_SplitN s ⟨#[59]⟩ 6 m w (by omega) hm (by omega) (by omega) (by omega)).mono ?_
  rintro e w' ⟨rfl, rfl⟩
  have hlen := Lib.splitB_length_le ⟨#[59]⟩ 0 (min 6 (s.size + 1) - 1) s
  refine ⟨_, Lib.splitB ⟨#[59]⟩ 0 (min 6 (s.size + 1) - 1) s, rfl, ?_, ?_, (Below.refl _ _).alloc (Nat.le_refl _) _⟩
  · unfold depPcs
    rw [← splitK_cutN]
    have e := Lib.splitB_data ⟨#[59]⟩ 0 (min 6 (s.size + 1) - 1) s
    simpa [dataOf] using e
  · generalize Lib.splitB ⟨#[59]⟩ 0 (min 6 (s.size + 1) - 1) s = L at *
    refine ⟨_, _, rfl, by omega, by unfold maxLen; omega, fun _ => ⟨w.heap.size, 0, rfl, by simp, fun j u hu => ?_⟩, fun h => by cases h⟩
    rw [Nat.zero_add, box_cell]
    rw [flat_str] at hu
    have hj := (List.getElem?_eq_some_iff.1 hu).1
    unfold Lib.cellsOf
    rw [List.getElem?_toArray, List.getElem?_append_left hj]
    exact hu

theorem DependencySO.nil0 (e : TypeId) (B C : Nat) (w : World) : DependencySO e B C (.slice none 0 0) [] [] w := ⟨rfl, World.ownsRow_nil w B _ _, (fun g hg => by cases hg), (fun i h => absurd h (by simp)), List.Pairwise.nil⟩
set_option maxHeartbeats 3200000 in
set_option maxRecDepth 100000 in
theorem implParseDeps_any (v : Value) (l : List Rel) (s : ByteArray) (w : World) (hl : RelsAt w w.heap.size v l) (hs : s.size ≤ 1048576) (ht : Tab w) (hv : ErrVars w) (hm : MaxL w) :
    Calls Tryz.prog 12 #[v, .string s] w fun e w' => ∃ u, e = .returned (.tuple #[u, .bool (ParseDependencies_ok l s)]) ∧ DependencyS_own w.heap.size w'.heap.size u (ParseDependencies_r0 l s) w' ∧ Below w.heap.size w w' := by
  have HLR := Lib.hid hl
  obtain ⟨A0, a0, rfl, -⟩ := hl
  by_cases h0 : s.data.toList = []
  · have hd : depsOk l [] = validRels l := by unfold depsOk; simp
    have HP := Lib.hid (show ParseDependencies_r0 l s = [] ∧ ParseDependencies_ok l s = validRels l by
      unfold ParseDependencies_r0 ParseDependencies_ok
      rw [parseDeps_nil h0, hd]
      cases validRels l <;> exact ⟨rfl, rfl⟩)
    have hvr := implAreValid_at2 l _ rfl (.slice A0 l.length a0) w HLR.out
    have hse : (s.toList == []) = true := by rw [ByteArray.toList_eq, h0]; rfl
    clear h0 hd
    go_enter Tryz.func12, Tryz.ntmps12
    go_wp2_with fail
    refine hvr.mono ?_
    rintro e w1 ⟨rfl, hb1⟩
    go_wp2
    go_ret2
    exact ⟨_, by rw [HP.out.2]; rfl, by rw [HP.out.1]; exact ⟨[], DependencySO.nil0 _ _ _ _⟩, hb1⟩
  · have hse : (s.toList == []) = false := by rw [ByteArray.toList_eq, beq_eq_false_iff_ne]; exact h0
    have HE := Lib.hid (implDeps_eq l s.data.toList h0)
    clear h0
    go_enter Tryz.func12, Tryz.ntmps12
    go_wp2_with fail
    refine (split6_any s _ hs hm).mono ?_
    rintro e w1 ⟨vP, L, rfl, hL, hP, hb1⟩
    have hz1 := hb1.size
    have hPl : (depPcs s.data.toList).length = L.length := by rw [← hL, dataOf_len]
    have hLl : L.length ≤ 6 := by
      rw [← hPl]
      unfold depPcs
      rw [cutN_len]
      omega
    have hLt : ∀ (k : Nat) (h : k < L.length), L[k].size ≤ 1048576 := by
      intro k h
      have h1 := cutN_piece 59 (min 6 (s.data.toList.length + 1) - 1) s.data.toList (L[k].data.toList) (by
        show L[k].data.toList ∈ depPcs s.data.toList
        rw [← hL]
        exact List.mem_map.2 ⟨_, List.getElem_mem h, rfl⟩)
      simp at h1; omega
    have HPT := Lib.hid hP
    obtain ⟨A, c, rfl, hc1, hc2, -⟩ := hP
    unfold maxLen at hc2
    have HLd := Lib.hid hL
    have HLt := Lib.hid hLt
    have HPl := Lib.hid hPl
    have HB1 := Lib.hid hb1
    clear hL hLt hPl hb1
    go_wp2
    go_loopw [6, 18] (fun o i wr => ∃ (n : Nat) (Xs : List DepX) (xs : List Dep), n ≤ L.length ∧ i = .int .i64 n ∧ Hid (xs.length = n) ∧ Hid (toDeps l ((depPcs s.data.toList).take n) = some xs) ∧ Hid (DependencySO 37 w1.heap.size wr.heap.size o Xs xs wr) ∧ Below w1.heap.size w1 wr) (fun _ i _ => L.length - (intOf i).toNat)
    case atStart => exact ⟨0, [], [], by omega, rfl, Lib.hid rfl, Lib.hid rfl, Lib.hid (DependencySO.nil0 _ _ _ _), Below.refl _ _⟩
    case round =>
      obtain ⟨n, Xs, xs, hn, rfl, HXl, HTD, HO, hW⟩ := hrel
      have hz := hW.size
      have hWw := HB1.out.trans (hW.mono hz1)
      obtain ⟨oP, oc, rfl, -, -⟩ := (HO.out.at_ (Nat.le_refl _)).form
      by_cases hlt : n < L.length
      · have hnc : n < (depPcs s.data.toList).length := by rw [HPl.out]; exact hlt
        obtain ⟨b, off, rfl, hb, hc⟩ := StrsAt.elem (HPT.out.below hW (Nat.le_refl _)) n hlt
        have HK : Hid (L[n].data.toList = (depPcs s.data.toList)[n]) := Lib.hid (by simp [← HLd.out, dataOf])
        have hts := HLt.out n hlt
        generalize L[n] = t at *
        have hpd := implParseDep_any (.slice A0 l.length a0) l t wr ((HLR.out.below hWw (Nat.le_refl _)).more hWw.size) hts (ht.below hWw) (hv.below hWw) (hm.below hWw)
        go_wp2_with fail
        refine hpd.mono ?_
        rintro e w2 ⟨X, rfl, hX, hb2⟩
        have hz2 := hb2.size
        have hW2 := hWw.trans (hb2.mono hWw.size)
        have hok := parseDep_ok_is (l := l) (s := t) rfl
        obtain ⟨Y1, y1, Y2, y2, hY1, hY2⟩ := hX.vals
        rw [hY1, hY2]
        have HY := Lib.hid (And.intro hY1 hY2)
        have HX := Lib.hid hX
        have HO2 := Lib.hid (HO.out.below hb2 (Nat.le_refl _))
        have HB2 := Lib.hid (hW.trans (hb2.mono hz))
        clear hpd hY1 hY2 hX hc
        cases hq : ParseDependency_ok l t with
        | false =>
          rw [hq] at hok
          have HV := Lib.hid (parseDeps_none (HE.out.trans (implDeps_stop n hnc (by rw [← HK.out]; exact hok.2 rfl))))
          clear hok hq
          generalize ParseDependency_r0 l t = x at *
          have hfin : Below w.heap.size w (w2.alloc (.cells #[.slice Y1 x.body.length y1, .slice Y2 x.head.length y2, .bool x.egd, .int .i64 x.left, .int .i64 x.right] 37)) := hW2.alloc hW2.size _
          have HF := Lib.hid hfin
          clear hfin
          go_wp2
          go_ret2
          exact ⟨_, by rw [HV.out.2]; rfl, by rw [HV.out.1]; exact ⟨[], DependencySO.nil0 _ _ _ _⟩, HF.out⟩
        | true =>
          rw [hq] at hok
          have HP := Lib.hid (hok.1 rfl)
          have HTN := Lib.hid (show toDeps l ((depPcs s.data.toList).take (n + 1)) = some (xs ++ [ParseDependency_r0 l t]) by
            rw [List.take_succ_eq_append_getElem hnc]
            exact toDeps_snoc _ _ _ _ HTD.out (by rw [← HK.out]; exact HP.out))
          clear hok hq
          generalize ParseDependency_r0 l t = x at *
          obtain ⟨W, hWe⟩ : ∃ W, W = w2.alloc (.cells #[.slice Y1 x.body.length y1, .slice Y2 x.head.length y2, .bool x.egd, .int .i64 x.left, .int .i64 x.right] 37) := ⟨_, rfl⟩
          have hAl : Below w2.heap.size w2 W := by rw [hWe]; exact below_more (Below.refl _ _) _
          have hWs : W.heap.size = w2.heap.size + 1 := by rw [hWe]; simp
          have HOW := Lib.hid ((HO2.out.mono (Nat.le_refl _) hz2).below hAl (Nat.le_refl _))
          have HXW := Lib.hid (HX.out.below hAl (Nat.le_refl _))
          have HBW := Lib.hid (HB2.out.trans (hAl.mono HB2.out.size))
          have HWs := Lib.hid hWs
          have hdl := dZip_len (l := xs) (Ps := Xs.map DepX.vals) (by rw [List.length_map, HO2.out.len])
          have hbd1 : ((dZip xs (Xs.map DepX.vals)).length + 1) * 72 ≤ 140737488355328 := by rw [hdl, HXl.out]; omega
          have hbd2 : (dZip xs (Xs.map DepX.vals)).length < 140737488355328 := by rw [hdl, HXl.out]; omega
          have hbd3 : w1.heap.size ≤ W.heap.size := HBW.out.size
          clear hdl hAl hWs
          have k0 : W.cell? ⟨w2.heap.size, 0, none⟩ = some (.slice Y1 x.body.length y1) := by rw [hWe]; simp [go_sem]
          have k1 : W.cell? ⟨w2.heap.size, 1, none⟩ = some (.slice Y2 x.head.length y2) := by rw [hWe]; simp [go_sem]
          have k2 : W.cell? ⟨w2.heap.size, 2, none⟩ = some (.bool x.egd) := by rw [hWe]; simp [go_sem]
          have k3 : W.cell? ⟨w2.heap.size, 3, none⟩ = some (.int .i64 x.left) := by rw [hWe]; simp [go_sem]
          have k4 : W.cell? ⟨w2.heap.size, 4, none⟩ = some (.int .i64 x.right) := by rw [hWe]; simp [go_sem]
          go_upto_region 10 with fail
          rw [← hWe]
          clear hWe
          go_wp2_with (at_builtin; refine wp_own_app_one dCells 5 72 dCells_len Tryz.underlying25 infoDep rfl (by decide) HOW.out.row rfl _ _ rfl rfl ⟨.slice Y1 x.body.length y1, .slice Y2 x.head.length y2, x.egd, x.left, x.right⟩ (fun u hu => by simp [dCells] at hu; rcases hu with rfl | rfl | rfl | rfl | rfl <;> rfl) 1 rfl hbd1 hbd2 hbd3 ?_; intro v8 w8 hrow hB8 hg8)
          have hz8 := hg8.size
          have hre : (⟨.slice Y1 x.body.length y1, .slice Y2 x.head.length y2, x.egd, x.left, x.right⟩ : DepC) = depC x X.vals := by
            unfold depC DepX.vals
            rw [HY.out.1, HY.out.2]
          rw [hre] at hrow
          have hFS := DependencySO.snoc (e := 37) (by decide) (by decide) (x := x) (X := X) (C' := w8.heap.size) HOW.out (by have := HWs.out; omega) hrow hg8 (row_inside hrow (Nat.le_refl _)) (HXW.out.mono (by omega) (by have := HWs.out; omega)) (fun i hi q h1 h2 => by
            have h3 := (HX.out.foot q h2).1
            have h4 := ((HO.out.el i (by have := HO.out.len; omega) hi).foot q h1).2
            omega)
          have HFS := Lib.hid hFS
          clear hre hrow hFS
          go_roundw
          case rel => exact ⟨n + 1, Xs ++ [X], xs ++ [x], by omega, by go_num, Lib.hid (by rw [List.length_append, HXl.out]; rfl), HTN, HFS, HBW.out.trans hB8⟩
          case measure => simp [intOf]; omega
      · obtain rfl : n = L.length := by omega
        have hT : toDeps l (depPcs s.data.toList) = some xs := by
          have := HTD.out
          rwa [List.take_of_length_le (by rw [HPl.out]; exact Nat.le_refl _)] at this
        have HI := Lib.hid (HE.out.trans (implDeps_end hT))
        have hsz : DependencyS_sz xs ≤ 1048576 := by
          have h1 := depsSz_ok xs (toDeps_back _ _ hT).2
          have h2 := HXl.out
          unfold DependencyS_sz
          omega
        have hAV := implAreValidDeps_any (.slice A0 l.length a0) l (.slice oP xs.length oc) xs wr ((HLR.out.below hWw (Nat.le_refl _)).more hWw.size) (HO.out.at_ (Nat.le_refl _)) hsz
        clear hT hsz
        cases hok : depsOk l xs with
        | false =>
          rw [hok] at hAV
          have HV := Lib.hid (parseDeps_none (HI.out.trans (if_neg (by rw [hok]; simp))))
          clear hok
          go_wp2_with fail
          refine hAV.mono ?_
          rintro e w9 ⟨rfl, hb9⟩
          have hW9 := hWw.trans (hb9.mono hWw.size)
          clear hAV
          go_wp2
          go_ret2
          exact ⟨_, by rw [HV.out.2]; rfl, by rw [HV.out.1]; exact ⟨[], DependencySO.nil0 _ _ _ _⟩, hW9⟩
        | true =>
          rw [hok] at hAV
          have HV := Lib.hid (parseDeps_some (HI.out.trans (if_pos hok)))
          clear hok
          go_wp2_with fail
          refine hAV.mono ?_
          rintro e w9 ⟨rfl, hb9⟩
          have hW9 := hWw.trans (hb9.mono hWw.size)
          clear hAV
          go_wp2
          go_ret2
          exact ⟨_, by rw [HV.out.2]; rfl, by rw [HV.out.1]; exact ⟨Xs, (HO.out.below hb9 (Nat.le_refl _)).mono hz1 hb9.size⟩, hW9⟩
theorem parseDeps_sz (l : List Rel) (s : ByteArray) : DependencyS_sz (ParseDependencies_r0 l s) ≤ 1048576 := by
  unfold ParseDependencies_r0
  cases h : parseDeps l s.data.toList with
  | none => show DependencyS_sz [] ≤ _; decide
  | some xs =>
    have h1 := depsOk_mem ((parseDeps_iff l _ xs).1 h).1
    have h2 := depsSz_ok xs h1.2.2
    show DependencyS_sz xs ≤ _
    unfold DependencyS_sz
    omega
theorem implParseDependencies_c (v : Value) (l : List Rel) (s : ByteArray) (w : World) (h : RelationS_at w w.heap.size v l) (_ : RelationS_wf l) (_ : RelationS_sz l ≤ 1048576) (hs : s.size ≤ 1048576) (ht : Tab w) (hv : ErrVars w) (hm : MaxL w) :
    Calls Tryz.prog 12 #[v, .string s] w fun e w' => ∃ r0, e = .returned (.tuple #[r0, .bool (ParseDependencies_ok l s)]) ∧ DependencyS_own w.heap.size w'.heap.size r0 (ParseDependencies_r0 l s) w' ∧ DependencyS_sz (ParseDependencies_r0 l s) ≤ 1048576 ∧ Below w.heap.size w w' :=
  (implParseDeps_any v l s w h hs ht hv hm).mono fun _ _ ⟨u, he, ho, hb⟩ => ⟨u, he, ho, parseDeps_sz l s, hb⟩

theorem implIsVariable_at (t : Int) (q : Bool) (hq : decide (0 ≤ t) = q) (w : World) :
    Calls Tryz.prog 219 #[.int .i64 t] w fun e w' => e = .returned (.bool q) ∧ w = w' := by
  subst hq; exact implIsVariable_any t w
set_option maxHeartbeats 1600000 in
set_option maxRecDepth 100000 in
theorem implFormatTerm_any (t : Int) (w : World) (ht : Tab w) :
    Calls Tryz.prog 161 #[.int .i64 t] w fun e w' => e = .returned (.string ⟨(fmtT t).toArray⟩) ∧ Below w.heap.size w w' := by
  cases hv : validT t with
  | false =>
    have hc := implIsValidTerm_at t false hv
    have HF := Lib.hid (fmtT_no hv)
    clear hv
    go_enter Tryz.func161, Tryz.ntmps161
    go_wp2_with fail
    refine (hc _).mono ?_
    rintro e w' ⟨rfl, rfl⟩
    go_wp2
    go_ret
    exact ⟨ret_str (by rw [HF.out]), Below.refl _ _⟩
  | true =>
    have hc := implIsValidTerm_at t true hv
    have hbd := (validT_iff t).1 hv
    clear hv
    by_cases h0 : 0 ≤ t
    · have h1 := implIsVariable_at t true (decide_eq_true h0)
      have hsz : ByteArray.size ⟨#[120, 121, 122, 117, 118]⟩ = 5 := rfl
      rcases (show t = 0 ∨ t = 1 ∨ t = 2 ∨ t = 3 ∨ t = 4 by omega) with rfl | rfl | rfl | rfl | rfl
      all_goals
        clear hbd h0
        go_enter Tryz.func161, Tryz.ntmps161
        go_wp2_with fail
        refine (hc _).mono ?_
        rintro e w' ⟨rfl, rfl⟩
        go_wp2_with fail
        refine (h1 _).mono ?_
        rintro e w' ⟨rfl, rfl⟩
        go_wp2
        go_ret
        exact ⟨rfl, Below.refl _ _⟩
    · have h1 := implIsVariable_at t false (decide_eq_false h0)
      have HF := Lib.hid (fmtT_const (t := t) ⟨hbd.1, by omega⟩)
      have h2 := fun w => implFormatInt_any (-1 - t) w (by omega) (by omega)
      go_enter Tryz.func161, Tryz.ntmps161
      go_wp2_with fail
      refine (hc _).mono ?_
      rintro e w' ⟨rfl, rfl⟩
      go_wp2_with fail
      refine (h1 _).mono ?_
      rintro e w' ⟨rfl, rfl⟩
      go_wp2_with fail
      refine (h2 _ ht).mono ?_
      rintro e w1 ⟨rfl, hb1⟩
      go_wp2
      go_ret
      exact ⟨ret_str (by rw [HF.out]), hb1⟩
theorem implFormatTerm_c (t : Int) (w : World) (_ : -9223372036854775808 ≤ t ∧ t ≤ 9223372036854775807) (ht : Tab w) :
    Calls Tryz.prog 161 #[.int .i64 t] w fun e w' => e = .returned (.string ⟨(fmtT t).toArray⟩) ∧ Below w.heap.size w w' := implFormatTerm_any t w ht

set_option maxHeartbeats 3200000 in
set_option maxRecDepth 100000 in
theorem implFormatAtom_any (v : Value) (l : List Rel) (r : Int) (V : Value) (vs : List Int) (w : World) (hl : RelsAt w w.heap.size v l) (hV : IntsAt w w.heap.size V vs) (ht : Tab w) :
    Calls Tryz.prog 217 #[v, .agg #[.int .i64 r, V]] w fun e w' => e = .returned (.string ⟨(fmtAtom l ⟨r, vs⟩).toArray⟩) ∧ Below w.heap.size w w' := by
  have HL := Lib.hid hl
  have HV := Lib.hid hV
  obtain ⟨A, c, rfl, hlc, hcm, -⟩ := hl
  obtain ⟨A', c', rfl, hlc', hcm', -⟩ := hV
  unfold maxLen at hcm hcm'
  have hcon := fun b h w' (hb : Below w.heap.size w w') => implIsValidAtom_at l ⟨r, vs⟩ b h (.slice A l.length c) (.agg #[.int .i64 r, .slice A' vs.length c']) w' ((HL.out.below hb (Nat.le_refl _)).more hb.size) ⟨_, rfl, (HV.out.below hb (Nat.le_refl _)).more hb.size⟩
  cases hr : atomB l ⟨r, vs⟩ with
  | false =>
    have HF := Lib.hid (fmtAtom_no (l := l) (a := ⟨r, vs⟩) hr)
    have hE : Below w.heap.size w (w.alloc (.cells #[.int .i64 r, .slice A' vs.length c'] 184)) := (Below.refl _ _).alloc (Nat.le_refl _) _
    replace hcon := hcon false hr _ hE
    clear hr
    go_enter Tryz.func217, Tryz.ntmps217
    go_wp2_with (go_at_call 222; refine hcon.mono ?_; rintro e w1 ⟨rfl, hb1⟩)
    go_ret
    exact ⟨ret_str (by rw [HF.out]), hE.trans (hb1.mono hE.size)⟩
  | true =>
    obtain ⟨hv, hin, hlen, hvals⟩ := atomOk_parts (show atomOk l r vs = true from hr)
    obtain ⟨k, rfl⟩ : ∃ k : Nat, r = (k : Int) := ⟨r.toNat, by omega⟩
    have hk : k < l.length := by omega
    have HF := Lib.hid (fmtAtom_yes (l := l) (a := ⟨(k : Int), vs⟩) hr)
    unfold nameAt at HF
    rw [Int.toNat_natCast, getD_at hk] at HF
    have hE : Below w.heap.size w (w.alloc (.cells #[.int .i64 (k : Int), .slice A' vs.length c'] 184)) := (Below.refl _ _).alloc (Nat.le_refl _) _
    have hEz : w.heap.size + 1 ≤ (w.alloc (.cells #[.int .i64 (k : Int), .slice A' vs.length c'] 184)).heap.size := by simp
    have K0 := Lib.hid (show (w.alloc (.cells #[.int .i64 (k : Int), .slice A' vs.length c'] 184)).cell? ⟨w.heap.size, 0, none⟩ = some (.int .i64 (k : Int)) by simp [go_sem])
    have K1 := Lib.hid (show (w.alloc (.cells #[.int .i64 (k : Int), .slice A' vs.length c'] 184)).cell? ⟨w.heap.size, 1, none⟩ = some (.slice A' vs.length c') by simp [go_sem])
    replace hcon := hcon true hr _ hE
    have hok := relOk_bd _ _ (validRels_at l hv k hk)
    have hvl : vs.length ≤ 3 := by rw [arityAt_in (show (k : Int).toNat < l.length by simpa using hk)] at hlen; simp at hlen; omega
    obtain ⟨b, off, rfl, hb, c0, -, -⟩ := RelsAt.elem HL.out k hk
    have hN1 : l[k].name.size ≤ 1 := by omega
    clear hr hv hin hlen hvals hok
    generalize l[k].name = N at *
    have HH := Lib.hid (show N = ⟨(N.data.toList ++ fmtTs (vs.take 0)).toArray⟩ from bytes_ext (by simp [fmtTs]))
    go_enter Tryz.func217, Tryz.ntmps217
    go_wp2_with fail
    refine hcon.mono ?_
    rintro e w1 ⟨rfl, hb1⟩
    have hW1 : Below w.heap.size w w1 := hE.trans (hb1.mono hE.size)
    have f0 := (hb1.cell (p := ⟨w.heap.size, 0, none⟩) hEz).trans K0.out
    have f1 := (hb1.cell (p := ⟨w.heap.size, 1, none⟩) hEz).trans K1.out
    replace c0 := (hW1.cell (p := ⟨b, off + k * 3, none⟩) hb).trans c0
    clear hcon
    go_wp2
    go_loopw [5, 21] (fun s i wr => ∃ j : Nat, j ≤ vs.length ∧ i = .int .i64 j ∧ s = .string ⟨(N.data.toList ++ fmtTs (vs.take j)).toArray⟩ ∧ Below (w.alloc (.cells #[.int .i64 (k : Int), .slice A' vs.length c'] 184)).heap.size (w.alloc (.cells #[.int .i64 (k : Int), .slice A' vs.length c'] 184)) wr) (fun _ i _ => vs.length - (intOf i).toNat)
    case atStart => exact ⟨0, by omega, rfl, by rw [← HH.out], hb1⟩
    case round =>
      obtain ⟨j, hj, rfl, rfl, hW⟩ := hrel
      have hsz : ByteArray.size ⟨(N.data.toList ++ fmtTs (vs.take j)).toArray⟩ ≤ 4 := by
        have h1 := fmtTs_len (vs.take j)
        rw [List.length_take] at h1
        rw [size_mk, List.length_append]
        have h2 : N.data.toList.length = N.size := by simp
        omega
      by_cases hlt : j < vs.length
      · obtain ⟨b', off', rfl, hb', d0⟩ := IntsAt.elem HV.out j hlt
        replace d0 := ((hE.trans (hW.mono hE.size)).cell (p := ⟨b', off' + j, none⟩) hb').trans d0
        have hfv := implFormatTerm_any vs[j] wr (ht.below (hE.trans (hW.mono hE.size)))
        have hfl : ByteArray.size ⟨(fmtT vs[j]).toArray⟩ ≤ 1 := by rw [size_mk]; exact fmtT_len _
        have HS' := Lib.hid (show (⟨(N.data.toList ++ fmtTs (vs.take j)).toArray⟩ : ByteArray) ++ ⟨(fmtT vs[j]).toArray⟩ = ⟨(N.data.toList ++ fmtTs (vs.take (j + 1))).toArray⟩ by rw [fmtTs_take vs j hlt, mk_app, List.append_assoc])
        generalize (⟨(N.data.toList ++ fmtTs (vs.take j)).toArray⟩ : ByteArray) = J at *
        generalize (⟨(fmtT vs[j]).toArray⟩ : ByteArray) = I at *
        go_wp2_with (go_at_call 161; refine hfv.mono ?_; rintro e w2 ⟨rfl, hb2⟩)
        go_roundw
        case rel => exact ⟨j + 1, by omega, by go_num, by rw [← HS'.out], hW.trans (hb2.mono hW.size)⟩
        case measure => simp [intOf]; omega
      · obtain rfl : j = vs.length := by omega
        have HE := Lib.hid (show (⟨(N.data.toList ++ fmtTs (vs.take vs.length)).toArray⟩ : ByteArray) = ⟨(fmtAtom l ⟨(k : Int), vs⟩).toArray⟩ by
          rw [HF.out, List.take_of_length_le (Nat.le_refl _)])
        go_wp2
        go_ret
        exact ⟨ret_str HE.out, hE.trans (hW.mono hE.size)⟩
theorem implFormatAtom_c (v : Value) (l : List Rel) (u : Value) (x : Atm) (w : World) (h : RelationS_at w w.heap.size v l) (_ : RelationS_wf l) (_ : RelationS_sz l ≤ 1048576) (h' : Atom_at w w.heap.size u x) (_ : Atom_wf x) (_ : Atom_sz x ≤ 1048576) (ht : Tab w) :
    Calls Tryz.prog 217 #[v, u] w fun e w' => e = .returned (.string ⟨(fmtAtom l x).toArray⟩) ∧ Below w.heap.size w w' := by
  obtain ⟨V, rfl, h'⟩ := h'
  exact implFormatAtom_any v l x.rel V x.vals w h h' ht

def atomTx (l : List Rel) (a : Atm) : ByteArray := ⟨(fmtAtom l a).toArray⟩
theorem strs_fill {α : Type} (f : α → ByteArray) (l : List α) (k : Nat) (h : k < l.length) : ((l.take k).map f ++ List.replicate (l.length - k) ByteArray.empty).set k (f l[k]) = (l.take (k + 1)).map f ++ List.replicate (l.length - (k + 1)) ByteArray.empty := by
  have e : ((l.take k).map f).length = k := by simp; omega
  rw [List.set_append_right _ _ (by omega), e, Nat.sub_self, List.take_succ_eq_append_getElem h, show l.length - k = (l.length - (k + 1)) + 1 by omega, List.replicate_succ, List.set_cons_zero, List.map_append, List.append_assoc]
  rfl
theorem join_atomTx (l : List Rel) (ts : List Atm) : Lib.join ((ts.map (atomTx l)).map (·.data.toList)) [32] = joinAtoms l ts := by
  unfold joinAtoms
  rw [List.map_map]
  rfl
set_option maxHeartbeats 3200000 in
set_option maxRecDepth 100000 in
theorem implFormatAtoms_any (v : Value) (l : List Rel) (u : Value) (ts : List Atm) (w : World) (hl : RelsAt w w.heap.size v l) (h : AtomS_at w w.heap.size u ts) (h2 : ts.length ≤ 2) (ht : Tab w) :
    Calls Tryz.prog 160 #[v, u] w fun e w' => e = .returned (.string ⟨(joinAtoms l ts).toArray⟩) ∧ Below w.heap.size w w' := by
  have HL := Lib.hid hl
  have HX := Lib.hid h
  obtain ⟨A, a0, rfl, -⟩ := hl
  obtain ⟨A', c, rfl, hc1, hc2⟩ := h.form
  unfold maxLen at hc2
  clear h
  have hmk := fun w => make_strs w ts.length ts.length (Nat.le_refl _) (by omega)
  go_enter Tryz.func160, Tryz.ntmps160
  go_wp2
  clear hmk
  go_loopw [13] (fun i wr => ∃ k : Nat, k ≤ ts.length ∧ i = .int .i64 k ∧ OwnStrs w.heap.size (.slice (some ⟨w.heap.size, 0, none⟩) ts.length ts.length) ((ts.take k).map (atomTx l) ++ List.replicate (ts.length - k) ByteArray.empty) wr ∧ Below w.heap.size w wr) (fun i _ => ts.length - (intOf i).toNat)
  case atStart => exact ⟨0, by omega, rfl, OwnStrs.full w _ (by omega) _ (Nat.le_refl _), (Below.refl _ _).alloc (Nat.le_refl _) _⟩
  case round =>
    obtain ⟨k, hk, rfl, hO, hW⟩ := hrel
    have hz := hW.size
    by_cases hlt : k < ts.length
    · obtain ⟨b, off, V, rfl, hb, c0, c1, hV⟩ := AtomS_at.elem HX.out k hlt
      replace c0 := (hW.cell (p := ⟨b, off + k * 2, none⟩) hb).trans c0
      replace c1 := (hW.cell (p := ⟨b, off + k * 2 + 1, none⟩) hb).trans c1
      have hlen : ((ts.take k).map (atomTx l) ++ List.replicate (ts.length - k) ByteArray.empty).length = ts.length := by simp; omega
      have HLen := Lib.hid hlen
      have hkl : k < ((ts.take k).map (atomTx l) ++ List.replicate (ts.length - k) ByteArray.empty).length := by omega
      have hO1 := fun w2 (hb2 : Below wr.heap.size wr w2) => hO.below hb2 (Nat.le_refl _)
      have hcon := fun (w1 : World) (hb1 : Below w.heap.size w w1) => implFormatAtom_any (.slice A l.length a0) l ts[k].rel V ts[k].vals w1 ((HL.out.below hb1 (Nat.le_refl _)).more hb1.size) ((hV.below hb1 (Nat.le_refl _)).more hb1.size) (ht.below hb1)
      have HE : Hid ((⟨ts[k].rel, ts[k].vals⟩ : Atm) = ts[k]) := Lib.hid rfl
      rw [HE.out] at hcon
      obtain ⟨PV, cV, rfl, -⟩ := id hV
      clear hlen hO
      go_wp2_with fail
      refine (hcon _ (hW.trans ((Below.refl _ _).alloc hz _))).mono ?_
      rintro e w2 ⟨rfl, hb2⟩
      have hB2 := ((Below.refl wr.heap.size wr).alloc (Nat.le_refl _) _).trans (hb2.mono (by simp))
      have hd := (hO1 w2 hB2).cell HLen.out k hkl
      have hfz := (hO1 w2 hB2).frozen HLen.out
      go_wp2
      go_roundw
      case rel => exact ⟨k + 1, by omega, by go_num, by rw [← strs_fill (atomTx l) ts k hlt]; exact (hO1 w2 hB2).set HLen.out k _, (hW.trans (hB2.mono hz)).setCell (Nat.le_refl _) _⟩
      case measure => simp [intOf]; omega
    · obtain rfl : k = ts.length := by omega
      have hO' : OwnStrs w.heap.size (.slice (some ⟨w.heap.size, 0, none⟩) ts.length ts.length) (ts.map (atomTx l)) wr := by simpa using hO
      have hcells : ∀ (j : Nat) x, (ts.map (atomTx l))[j]? = some x → wr.cell? ⟨w.heap.size, 0 + j, none⟩ = some (.string x) := by
        intro j x hx
        have hj := (List.getElem?_eq_some_iff.1 hx).1
        rw [Nat.zero_add, hO'.cell (by simp) j hj, ← (List.getElem?_eq_some_iff.1 hx).2]
      have hj := Tryz.strings_Join w.heap.size 0 ts.length (ts.map (atomTx l)) ⟨#[32]⟩ wr hcells (World.ownsRow.lt hO' w.heap.size rfl).2 (by simp; omega) (by simp) (by rw [show (⟨#[32]⟩ : ByteArray).data.toList = [32] from rfl, join_atomTx]; have := joinAtoms_len l ts ts.length (Nat.le_refl _); rw [List.take_length] at this; omega)
      rw [show (⟨#[32]⟩ : ByteArray).data.toList = [32] from rfl, join_atomTx, List.length_map] at hj
      clear hcells hO hO'
      go_wp2_with fail
      refine hj.mono ?_
      rintro e w2 ⟨rfl, hb2⟩
      go_wp2
      go_ret
      exact ⟨rfl, hW.trans (hb2.mono hz)⟩

end Go.Proofs.YtmecdjincmkofaaGreatDoor
