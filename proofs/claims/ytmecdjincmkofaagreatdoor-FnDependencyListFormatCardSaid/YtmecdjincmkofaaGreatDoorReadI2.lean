/-
  Walks and plain lemmas for the laws of this seat: what single Go functions return, for every argument.
-/
import Derived.Test.YtmecdjincmkofaaGreatDoorShelf
import Derived.Lib.SplitLaws
import Derived.Test.YtmecdjincmkofaaGreatDoorBase
import Derived.Test.YtmecdjincmkofaaGreatDoorFmtS
import Derived.Test.YtmecdjincmkofaaGreatDoorMem
import Derived.Test.YtmecdjincmkofaaGreatDoorTyAtom
import Derived.Test.YtmecdjincmkofaaGreatDoorTyDepS
import Derived.Test.YtmecdjincmkofaaGreatDoorFmtV
import Derived.Test.YtmecdjincmkofaaGreatDoorVarsM
import Derived.Test.YtmecdjincmkofaaGreatDoorFmtDI
import Derived.Test.YtmecdjincmkofaaGreatDoorReadI
namespace Go.Proofs.YtmecdjincmkofaaGreatDoor
open Go.RowKit

/-- the pieces between spaces, at most three -/
def GivesParts3 (s : ByteArray) (w : World) (e : Ending) (w' : World) : Prop := ∃ v L, e = .returned v ∧ dataOf L = implPcs s.data.toList ∧ StrsAt w' w'.heap.size v L ∧ Below w.heap.size w w'
theorem split3_any (s : ByteArray) (w : World) (hs : s.size ≤ 1048576) (hm : MaxL w) :
    Calls Tryz.prog 74 #[.string s, .string ⟨#[32]⟩, .int .i64 3] w (GivesParts3 s w) := by
  obtain ⟨m, hm⟩ := hm
  have h1 : ByteArray.size ⟨#[32]⟩ = 1 := rfl
  refine (Tryz.strings_SplitN s ⟨#[32]⟩ 3 m w (by omega) hm (by omega) (by omega) (by omega)).mono ?_
  rintro e w' ⟨rfl, rfl⟩
  have hlen := Lib.splitB_length_le ⟨#[32]⟩ 0 (min 3 (s.size + 1) - 1) s
  refine ⟨_, Lib.splitB ⟨#[32]⟩ 0 (min 3 (s.size + 1) - 1) s, rfl, ?_, ?_, (Below.refl _ _).alloc (Nat.le_refl _) _⟩
  · unfold implPcs
    rw [← splitK_cutN]
    have e := Lib.splitB_data ⟨#[32]⟩ 0 (min 3 (s.size + 1) - 1) s
    simpa [dataOf] using e
  · generalize Lib.splitB ⟨#[32]⟩ 0 (min 3 (s.size + 1) - 1) s = L at *
    refine ⟨_, _, rfl, by omega, by unfold maxLen; omega, fun _ => ⟨w.heap.size, 0, rfl, by simp, fun j u hu => ?_⟩, fun h => by cases h⟩
    rw [Nat.zero_add, box_cell]
    rw [flat_str] at hu
    have hj := (List.getElem?_eq_some_iff.1 hu).1
    unfold Lib.cellsOf
    rw [List.getElem?_toArray, List.getElem?_append_left hj]
    exact hu
theorem cutP_any (s : ByteArray) (c : UInt8) (w : World) (hs : s.size ≤ 1048576) (hm : MaxL w) :
    Calls Tryz.prog 86 #[.string s, .string ⟨#[c]⟩] w fun e w' => e = .returned (.tuple #[.string ⟨(Lib.cut s.data.toList [c]).1.toArray⟩, .string ⟨(Lib.cut s.data.toList [c]).2.1.toArray⟩, .bool (Lib.cut s.data.toList [c]).2.2]) ∧ Below w.heap.size w w' := by
  obtain ⟨m, hm⟩ := hm
  refine (Tryz.strings_Cut s ⟨#[c]⟩ m w (by omega) hm).mono ?_
  rintro e w' ⟨rfl, n, rfl⟩
  exact ⟨rfl, rfl, rfl, rfl, Nat.le_refl _, fun _ _ => rfl⟩

def GivesAtoms (l : List Rel) (s : ByteArray) (w : World) (e : Ending) (w' : World) : Prop := Below w.heap.size w w' ∧ ((∃ ts u Vs, implAtoms l s.data.toList = some ts ∧ ts.length ≤ 3 ∧ e = .returned u ∧ AtomSO 184 w.heap.size w'.heap.size u Vs ts w') ∨ (implAtoms l s.data.toList = none ∧ e = .panicked NoFmt))
set_option maxHeartbeats 3200000 in
set_option maxRecDepth 100000 in
theorem implReadAtoms_any (v : Value) (l : List Rel) (s : ByteArray) (w : World) (hl : RelsAt w w.heap.size v l) (hs : s.size ≤ 1048576) (ht : Tab w) (hv : ErrVars w) (hm : MaxL w) :
    Calls Tryz.prog 195 #[v, .string s] w (GivesAtoms l s w) := by
  have HLR := Lib.hid hl
  go_enter Tryz.func195, Tryz.ntmps195
  go_wp2_with fail
  refine (split3_any s _ hs hm).mono ?_
  rintro e w1 ⟨vP, L, rfl, hL, hP, hb1⟩
  have hz1 := hb1.size
  have hLl : L.length ≤ 3 := by
    have h1 := congrArg List.length hL
    unfold implPcs at h1
    rw [cutN_len, dataOf_len] at h1
    omega
  have hPl : (implPcs s.data.toList).length = L.length := by rw [← hL, dataOf_len]
  have hLt : ∀ (k : Nat) (h : k < L.length), L[k].size ≤ 1048576 := by
    intro k h
    have h1 := cutN_piece 32 (min 3 (s.data.toList.length + 1) - 1) s.data.toList (L[k].data.toList) (by
      show L[k].data.toList ∈ implPcs s.data.toList
      rw [← hL]
      exact List.mem_map.2 ⟨_, List.getElem_mem h, rfl⟩)
    simp at h1; omega
  have HPT := Lib.hid hP
  obtain ⟨A, c, rfl, hc1, hc2, -⟩ := hP
  unfold maxLen at hc2
  have HLd := Lib.hid hL
  have HLt := Lib.hid hLt
  have HPl := Lib.hid hPl
  have HB1 := Lib.hid hb1
  clear hL hLt hPl hl hb1
  go_wp2
  go_loopw [5, 11] (fun o i wr => ∃ (n : Nat) (Vs : List Value), n ≤ L.length ∧ i = .int .i64 n ∧ Hid (AtomSO 184 w1.heap.size wr.heap.size o Vs (((implPcs s.data.toList).take n).map (readAtom l)) wr) ∧ Hid (((implPcs s.data.toList).take n).all atomIs = true) ∧ Below w1.heap.size w1 wr) (fun _ i _ => L.length - (intOf i).toNat)
  case atStart => exact ⟨0, [], by omega, rfl, Lib.hid (AtomSO.nil0 _ _ _ _), Lib.hid rfl, Below.refl _ _⟩
  case round =>
    obtain ⟨n, Vs, hn, rfl, HO, HA, hW⟩ := hrel
    have hz := hW.size
    have hWw := HB1.out.trans (hW.mono hz1)
    by_cases hlt : n < L.length
    · have hnc : n < (implPcs s.data.toList).length := by rw [HPl.out]; exact hlt
      obtain ⟨b, off, rfl, hb, hc⟩ := StrsAt.elem (HPT.out.below hW (Nat.le_refl _)) n hlt
      have HK : Hid (L[n].data.toList = (implPcs s.data.toList)[n]) := Lib.hid (by simp [← HLd.out, dataOf])
      have hts := HLt.out n hlt
      have HN := Lib.hid (show ((implPcs s.data.toList).take (n + 1)).map (readAtom l) = ((implPcs s.data.toList).take n).map (readAtom l) ++ [readAtom l L[n].data.toList] by
        rw [List.take_succ_eq_append_getElem hnc, List.map_append, HK.out]; rfl)
      have HAn := Lib.hid (show atomIs L[n].data.toList = true → ((implPcs s.data.toList).take (n + 1)).all atomIs = true by
        intro h
        rw [List.take_succ_eq_append_getElem hnc, List.all_append, HA.out, ← HK.out]; simp [h])
      have HAx := Lib.hid (show atomIs L[n].data.toList = false → implAtoms l s.data.toList = none by
        intro h
        unfold implAtoms
        refine if_neg ?_
        intro h2
        have h3 := List.all_eq_true.1 h2 _ (List.getElem_mem hnc)
        rw [← HK.out, h] at h3; cases h3)
      have hRl : (((implPcs s.data.toList).take n).map (readAtom l)).length = n := by rw [List.length_map, List.length_take]; omega
      generalize hR : ((implPcs s.data.toList).take n).map (readAtom l) = R at *
      generalize L[n] = t at *
      have HRl := Lib.hid hRl
      clear HK hR hRl HA
      obtain ⟨oP, oc, rfl, -, -⟩ := (HO.out.at_ (Nat.le_refl _)).form
      have hra := implReadAtom_any v l t wr ((HLR.out.below hWw (Nat.le_refl _)).more hWw.size) hts (ht.below hWw) (hv.below hWw)
      go_wp2_with fail
      refine hra.mono ?_
      rintro e w2 ⟨hb2, (⟨hi, V, rfl, hV⟩ | ⟨hi, rfl⟩)⟩
      · obtain ⟨PV, cV, rfl, -⟩ := id hV.at_
        have hz2 := hb2.size
        have HV := Lib.hid (IntsO.of hV)
        have HO2 := Lib.hid (HO.out.below hb2 (Nat.le_refl _))
        have hln : R.length ≤ 3 := by rw [HRl.out]; omega
        have hap := apairs_len HO2.out.len
        have hbd1 : ((apairs R Vs).length + 1) * 32 ≤ 140737488355328 := by rw [hap]; omega
        have hbd2 : (apairs R Vs).length < 140737488355328 := by rw [hap]; omega
        have hbd3 : w1.heap.size ≤ w2.heap.size := Nat.le_trans hz hz2
        have hBW := Lib.hid (hW.trans (hb2.mono hz))
        clear hap hV hb2
        go_wp2_with (at_builtin; refine wp_own_app_one apairCells 2 32 apairCells_len Tryz.underlying35 infoAtm rfl (by decide) HO2.out.row rfl _ _ rfl rfl ((readAtom l t.data.toList).rel, .slice PV (readAtom l t.data.toList).vals.length cV) (fun u hu => by simp [apairCells] at hu; rcases hu with rfl | rfl <;> rfl) 1 rfl hbd1 hbd2 hbd3 ?_; intro v8 w8 hrow hB8 hg8)
        have hz8 := hg8.size
        have hFS := AtomSO.snoc (e := 184) (by decide) (x := readAtom l t.data.toList) (C' := w8.heap.size) HO2.out (by omega) hrow hg8 (row_inside hrow (Nat.le_refl _)) (HV.out.mono (by omega) hz8) (fun i hi q h1 h2 => by
          have h3 := (HV.out.1.lt q h2).1
          have h4 := (HO.out.el i (by have := HO.out.len; omega) hi).2 q h1
          omega)
        go_roundw
        case rel => exact ⟨n + 1, Vs ++ [.slice PV (readAtom l t.data.toList).vals.length cV], by omega, by go_num, Lib.hid (by rw [HN.out]; exact hFS), Lib.hid (HAn.out hi), hBW.out.trans hB8⟩
        case measure => simp [intOf]; omega
      · exact ⟨rfl, hWw.trans (hb2.mono hWw.size), .inr ⟨HAx.out hi, rfl⟩⟩
    · obtain rfl : n = L.length := by omega
      have HT := Lib.hid (show (implPcs s.data.toList).take L.length = implPcs s.data.toList from List.take_of_length_le (by rw [HPl.out]; exact Nat.le_refl _))
      rw [HT.out] at HO HA
      have HI := Lib.hid (show implAtoms l s.data.toList = some ((implPcs s.data.toList).map (readAtom l)) from if_pos HA.out)
      have hRl : ((implPcs s.data.toList).map (readAtom l)).length ≤ 3 := by rw [List.length_map, HPl.out]; exact hLl
      generalize (implPcs s.data.toList).map (readAtom l) = R at *
      obtain ⟨oP, oc, rfl, -, -⟩ := (HO.out.at_ (Nat.le_refl _)).form
      go_wp2
      go_ret
      exact ⟨hWw, .inl ⟨R, _, Vs, HI.out, hRl, rfl, HO.out.mono hz1 (Nat.le_refl _)⟩⟩

def DVal (X : DepX) (x : Dep) : Value := .agg #[X.1.1, X.2.1, .bool x.egd, .int .i64 x.left, .int .i64 x.right]
theorem cut_le1 (c : UInt8) (s : List UInt8) : (Lib.cut s [c]).1.length ≤ s.length := by
  by_cases hc : c ∈ s
  · obtain ⟨p, r, h1, rfl⟩ := split_at c s hc
    rw [cut_app c p r h1]
    simp
  · rw [cut_none c s hc]; exact Nat.le_refl _
theorem chg_mid {B : Nat} {w w' : World} (h : Chg (Mid B (B + 1)) w w') (o : Nat) (v : Value) : Chg (Mid B (B + 1)) w (w'.setCell ⟨B, o, none⟩ v) := h.setCell (p := ⟨B, o, none⟩) ⟨Nat.le_refl _, Nat.lt_succ_self _⟩ v
/-- what has been read, in memory of the call's own, or the panic -/
def GivesRaw (r : Option Dep) (w : World) (e : Ending) (w' : World) : Prop := Below w.heap.size w w' ∧ ((∃ x X, r = some x ∧ e = .returned (DVal X x) ∧ DepOwn w.heap.size w'.heap.size X x w') ∨ (r = none ∧ e = .panicked NoFmt))
set_option maxHeartbeats 3200000 in
set_option maxRecDepth 100000 in
theorem implReadEquality_any (v : Value) (l : List Rel) (s : ByteArray) (w : World) (hl : RelsAt w w.heap.size v l) (hs : s.size ≤ 1048576) (ht : Tab w) (hv : ErrVars w) (hm : MaxL w) :
    Calls Tryz.prog 196 #[v, .string s] w (GivesRaw (implEgd l (Lib.cut s.data.toList [61]).1 (Lib.cut s.data.toList [61]).2.1) w) := by
  have HL := Lib.hid hl
  obtain ⟨A, a0, rfl, -⟩ := hl
  obtain ⟨E, hEq⟩ : ∃ E, E = w.alloc (.cells #[.slice none 0 0, .slice none 0 0, .bool false, .int .i64 0, .int .i64 0] 37) := ⟨_, rfl⟩
  have hE : Below w.heap.size w E := by rw [hEq]; exact below_more (Below.refl _ _) _
  have HEz := Lib.hid (show E.heap.size = w.heap.size + 1 by rw [hEq]; simp)
  have HA := fun o => Lib.hid (show E.cell? ⟨w.heap.size, o, none⟩ = (#[.slice none 0 0, .slice none 0 0, .bool false, .int .i64 0, .int .i64 0] : Array Value)[o]? by rw [hEq]; rcases (show o = 0 ∨ o = 1 ∨ o = 2 ∨ o = 3 ∨ o = 4 ∨ 5 ≤ o by omega) with rfl | rfl | rfl | rfl | rfl | h <;> simp [go_sem])
  have HAz := Lib.hid (show ∀ o, E.frozen? ⟨w.heap.size, o, none⟩ = false by intro o; rw [hEq]; simp [go_sem])
  have hcut := cutP_any s 61 E hs (hm.below hE)
  have h3 : s.data.toList.length = s.size := by simp
  have hcl := cut_le1 61 s.data.toList
  generalize (Lib.cut s.data.toList [61]).1 = a at *
  generalize (Lib.cut s.data.toList [61]).2.1 = b at *
  generalize (Lib.cut s.data.toList [61]).2.2 = fd at *
  have hsa : ByteArray.size ⟨a.toArray⟩ ≤ 1048576 := by rw [size_mk]; omega
  clear h3 hcl
  rw [hEq] at hcut
  go_enter Tryz.func196, Tryz.ntmps196
  go_wp2_with fail
  refine hcut.mono ?_
  rw [← hEq]
  clear hEq hcut
  rintro e w2 ⟨rfl, hb2⟩
  have hz2 := hb2.size
  have HWw := Lib.hid (hE.trans (hb2.mono hE.size))
  have hg2 : w.heap.size < w2.heap.size := by have := HEz.out; omega
  have Z := fun o => (hb2.cell (p := ⟨w.heap.size, o, none⟩) (by show w.heap.size < _; rw [HEz.out]; omega)).trans (HA o).out
  have zz := fun o => (hb2.frozen (p := ⟨w.heap.size, o, none⟩) (by show w.heap.size < _; rw [HEz.out]; omega)).trans (HAz.out o)
  have z0 := Z 0
  have z1 := Z 1
  have z2 := Z 2
  have z3 := Z 3
  have z4 := Z 4
  simp at z0 z1 z2 z3 z4
  have HZ := Lib.hid (And.intro z0 (And.intro z1 (And.intro z2 (And.intro z3 (And.intro z4 zz)))))
  clear Z HA HAz zz z0 z1 z2 z3 z4 hb2 hz2
  by_cases hq : b.length = 2
  · obtain ⟨c, d, rfl⟩ := list_two b hq
    have hsq : ByteArray.size ⟨#[c, d]⟩ = 2 := rfl
    have hsq2 : (((2 : Nat) : Int) != 2) = false := rfl
    have e1 : (⟨#[c, d]⟩ : ByteArray).extract 0 1 = ⟨#[c]⟩ := rfl
    have e2 : (⟨#[c, d]⟩ : ByteArray).extract 1 2 = ⟨#[d]⟩ := rfl
    clear hq
    have hta := fun w' (hb : Below w.heap.size w w') => implReadAtoms_any (.slice A l.length a0) l ⟨a.toArray⟩ w' ((HL.out.below hb (Nat.le_refl _)).more hb.size) hsa (ht.below hb) (hv.below hb) (hm.below hb)
    have htc := fun w' (hb : Below w.heap.size w w') => implReadTerm_any c w' (ht.below hb) (hv.below hb)
    have htd := fun w' (hb : Below w.heap.size w w') => implReadTerm_any d w' (ht.below hb) (hv.below hb)
    have H0 := Lib.hid (show implAtoms l a = none → implEgd l a [c, d] = none by intro h; unfold implEgd; rw [h])
    have H1 := Lib.hid (show termIs c = false → implEgd l a [c, d] = none by intro h; unfold implEgd; cases implAtoms l a <;> simp [h])
    have H2 := Lib.hid (show termIs d = false → implEgd l a [c, d] = none by intro h; unfold implEgd; cases implAtoms l a <;> simp [h])
    have H3 := Lib.hid (show ∀ ts, implAtoms l a = some ts → termIs c = true → termIs d = true → implEgd l a [c, d] = some ⟨ts, [], true, termOf c, termOf d⟩ by intro ts h h1 h2; unfold implEgd; simp only [h]; exact if_pos ⟨h1, h2⟩)
    go_wp2
    refine wp_region_planXL (PX := fun ps ds w' => ps = NoFmt ∧ ds = [] ∧ Below w.heap.size w w' ∧ implEgd l a [c, d] = none) (C := fun _ => True) (.still 0 (.still 1 (.still 3 (.still 4 (.still 6 (.still 7 (.move true 2 (.move true 5 (.move true 8 (.still 9 (.move false 10 .done .none)) .none) .none) .none))))))) (by kernel_rfl) (by kernel_rfl) (by kernel_rfl) (by rintro ps a w' ⟨rfl, hd, hb, hf⟩; exact ⟨hd, hb, .inr ⟨hf, rfl⟩⟩) (fun _ => True.intro) ?_
    iterate 6
      refine planX_look _ rfl rfl ?_
      go_big_quiet_step (fail)
      refine wpQuiet_nil ?_
    refine planX_call _ 195 _ _ _ _ _ rfl _ Tryz.func195 (by kernel_rfl) (by kernel_rfl) ?_ True.intro
    have hWd : Below w.heap.size w w2.drew := HWw.out.drew
    refine (hta _ hWd).mono ?_
    rintro _ w3 ⟨hb3, (⟨ts, u, Vs, hi, hts, rfl, hO⟩ | ⟨hi, rfl⟩)⟩
    · obtain ⟨Y1, y1, rfl, -, -⟩ := (hO.at_ (Nat.le_refl _)).form
      have hb3' : Below w2.heap.size w2 w3 := (show Below w2.heap.size w2 w2.drew from (Below.refl _ _).drew).trans hb3
      have hz3 := hb3'.size
      have hW3 := HWw.out.trans (hb3'.mono HWw.out.size)
      have HO := Lib.hid (show AtomSO 184 w2.heap.size w3.heap.size (.slice Y1 ts.length y1) Vs ts w3 from hO)
      refine .inl ⟨_, rfl, fun _ => True.intro, ?_⟩
      clear hO
      refine planX_put ?_ (by simp only [Act.put, List.setIfInBounds_toArray, List.set_cons_succ, List.set_cons_zero]; rfl)
      refine planX_call _ 236 _ _ _ _ _ rfl _ Tryz.func236 (by kernel_rfl) (by kernel_rfl) ?_ True.intro
      refine (htc _ hW3).mono ?_
      rintro _ w4 ⟨hb4, (⟨hc, rfl⟩ | ⟨hc, rfl⟩)⟩
      · have hz4 := hb4.size
        have hb4' := hb3'.trans (hb4.mono hz3)
        have hW4 := hW3.trans (hb4.mono hW3.size)
        refine .inl ⟨_, rfl, fun _ => True.intro, ?_⟩
        refine planX_put ?_ (by simp only [Act.put, List.setIfInBounds_toArray, List.set_cons_succ, List.set_cons_zero]; rfl)
        refine planX_call _ 236 _ _ _ _ _ rfl _ Tryz.func236 (by kernel_rfl) (by kernel_rfl) ?_ True.intro
        refine (htd _ hW4).mono ?_
        rintro _ w5 ⟨hb5, (⟨hd, rfl⟩ | ⟨hd, rfl⟩)⟩
        · have hz5 := hb5.size
          have hb5' := hb4'.trans (hb5.mono (Nat.le_trans hz3 hz4))
          have hW5 := hW4.trans (hb5.mono hW4.size)
          refine .inl ⟨_, rfl, fun _ => True.intro, ?_⟩
          refine planX_put ?_ (by simp only [Act.put, List.setIfInBounds_toArray, List.set_cons_succ, List.set_cons_zero]; rfl)
          refine planX_look _ rfl rfl ?_
          go_big_quiet_step (fail)
          refine wpQuiet_nil ?_
          obtain ⟨q0, q1, q2, q3, q4, qz⟩ := HZ.out
          replace q0 := (hb5'.cell (p := ⟨w.heap.size, 0, none⟩) hg2).trans q0
          replace q1 := (hb5'.cell (p := ⟨w.heap.size, 1, none⟩) hg2).trans q1
          replace q2 := (hb5'.cell (p := ⟨w.heap.size, 2, none⟩) hg2).trans q2
          replace q3 := (hb5'.cell (p := ⟨w.heap.size, 3, none⟩) hg2).trans q3
          replace q4 := (hb5'.cell (p := ⟨w.heap.size, 4, none⟩) hg2).trans q4
          replace qz := fun o => (hb5'.frozen (p := ⟨w.heap.size, o, none⟩) hg2).trans (qz o)
          obtain ⟨W, hWe⟩ : ∃ W, W = (((((w5.setCell ⟨w.heap.size, 0, none⟩ (.slice Y1 ts.length y1)).setCell ⟨w.heap.size, 1, none⟩ (.slice none 0 0)).setCell ⟨w.heap.size, 2, none⟩ (.bool true)).setCell ⟨w.heap.size, 3, none⟩ (.int .i64 (termOf c))).setCell ⟨w.heap.size, 4, none⟩ (.int .i64 (termOf d))) := ⟨_, rfl⟩
          have hXl : DepOwn w2.heap.size w5.heap.size ((.slice Y1 ts.length y1, Vs), (.slice none 0 0, [])) ⟨ts, [], true, termOf c, termOf d⟩ w5 :=
            ⟨(((HO.out.below hb4 (Nat.le_refl _)).mono (Nat.le_refl _) hz4).below hb5 (Nat.le_refl _)).mono (Nat.le_refl _) hz5, AtomSO.nil0 _ _ _ _, fun q h1 h2 => no_foot q h2⟩
          refine planX_skip (w' := W) _ rfl rfl rfl (by rw [hWe]; simp [go_sem, q0, q1, q2, q3, q4, qz]) (fun e => by cases e) ?_ True.intro
          refine planX_put ?_ (by simp only [Act.put]; rfl)
          refine planX_done ?_
          have hchW : Chg (Mid w.heap.size (w.heap.size + 1)) w5 W := by rw [hWe]; exact chg_mid (chg_mid (chg_mid (chg_mid (chg_mid (Chg.refl _ _) _ _) _ _) _ _) _ _) _ _
          have hBW : Below w.heap.size w W := by rw [hWe]; exact (((((hW5.setCell (p := ⟨w.heap.size, 0, none⟩) (Nat.le_refl _) _).setCell (p := ⟨w.heap.size, 1, none⟩) (Nat.le_refl _) _).setCell (p := ⟨w.heap.size, 2, none⟩) (Nat.le_refl _) _).setCell (p := ⟨w.heap.size, 3, none⟩) (Nat.le_refl _) _).setCell (p := ⟨w.heap.size, 4, none⟩) (Nat.le_refl _) _)
          have hszW : W.heap.size = w5.heap.size := by rw [hWe]; simp [World.setCell]
          have k0 : W.cell? ⟨w.heap.size, 0, none⟩ = some (.slice Y1 ts.length y1) := by rw [hWe]; simp [go_sem, q0]
          have k1 : W.cell? ⟨w.heap.size, 1, none⟩ = some (.slice none 0 0) := by rw [hWe]; simp [go_sem, q1]
          have k2 : W.cell? ⟨w.heap.size, 2, none⟩ = some (.bool true) := by rw [hWe]; simp [go_sem, q2]
          have k3 : W.cell? ⟨w.heap.size, 3, none⟩ = some (.int .i64 (termOf c)) := by rw [hWe]; simp [go_sem, q3]
          have k4 : W.cell? ⟨w.heap.size, 4, none⟩ = some (.int .i64 (termOf d)) := by rw [hWe]; simp [go_sem, q4]
          clear hWe
          go_wp2
          refine bodyPost_ret (v := DVal ((.slice Y1 ts.length y1, Vs), (.slice none 0 0, [])) ⟨ts, [], true, termOf c, termOf d⟩) (by simp [results, Tryz.results196, go_sem, k0, k1, k2, k3, k4, DVal]) rfl ⟨hBW, .inl ⟨_, _, H3.out ts hi hc hd, rfl, ?_⟩⟩
          exact ((hXl.chg hchW (.inr (by omega))).mono (by omega) (Nat.le_of_eq hszW.symm))
        · exact .inr ⟨_, rfl, rfl, rfl, hW4.trans (hb5.mono hW4.size), H2.out hd⟩
      · exact .inr ⟨_, rfl, rfl, rfl, hW3.trans (hb4.mono hW3.size), H1.out hc⟩
    · exact .inr ⟨_, rfl, rfl, rfl, hWd.trans (hb3.mono hWd.size), H0.out hi⟩
  · have H0 := Lib.hid (show implEgd l a b = none by
      unfold implEgd
      split
      · exact absurd rfl hq
      · rfl)
    have hsq : ByteArray.size ⟨b.toArray⟩ = b.length := size_mk _
    have hne : (((b.length : Nat) : Int) != 2) = true := by unfold bne; rw [beq_eq_false_iff_ne.2 (by omega)]; rfl
    go_wp2
    exact ⟨rfl, HWw.out, .inr ⟨H0.out, rfl⟩⟩

end Go.Proofs.YtmecdjincmkofaaGreatDoor
