/-
  Walks and plain lemmas for the laws of this seat: what single Go functions return, for every argument.
-/
import Derived.Test.YtmecdjincmkofaaGreatDoorFactV
import Derived.Test.YtmecdjincmkofaaGreatDoorDrawI
import Derived.Test.YtmecdjincmkofaaGreatDoorFmtTS
import Derived.Test.YtmecdjincmkofaaGreatDoorDepK
namespace Go.Proofs.YtmecdjincmkofaaGreatDoor
open Go.RowKit

set_option maxHeartbeats 3200000 in
set_option maxRecDepth 100000 in
theorem specFormatDep_any (v : Value) (l : List Rel) (u : Value) (x : Dep) (w : World) (hl : RelsAt w w.heap.size v l) (hn : l.length ≤ 1048576) (h : Dependency_at w w.heap.size u x) (hw : Dependency_wf x) :
    Calls Tryz.prog 123 #[v, u] w fun e w' => e = .returned (.string ⟨(fmtDep l x).toArray⟩) ∧ Below w.heap.size w w' := by
  have HL := Lib.hid hl
  have HX := Lib.hid h
  obtain ⟨A, a0, rfl, hlc, hcm, -⟩ := hl
  obtain ⟨P, c, Q, d, rfl⟩ := Dependency_form h
  obtain ⟨V1, V2, hv, hR, hF⟩ := h
  simp only [Value.agg.injEq, Array.mk.injEq, List.cons.injEq, and_true] at hv
  obtain ⟨rfl, rfl⟩ := hv
  have HR := Lib.hid hR
  have HF := Lib.hid hF
  clear hR hF
  obtain ⟨E, hEq⟩ : ∃ E, E = w.alloc (.cells #[.slice P x.body.length c, .slice Q x.head.length d, .bool x.egd, .int .i64 x.left, .int .i64 x.right] 37) := ⟨_, rfl⟩
  have hE : Below w.heap.size w E := by rw [hEq]; exact below_more (Below.refl _ _) _
  have hEz : w.heap.size < E.heap.size := by rw [hEq]; simp
  have K0 := Lib.hid (show E.cell? ⟨w.heap.size, 0, none⟩ = some (.slice P x.body.length c) by rw [hEq]; simp [go_sem])
  have K1 := Lib.hid (show E.cell? ⟨w.heap.size, 1, none⟩ = some (.slice Q x.head.length d) by rw [hEq]; simp [go_sem])
  have K2 := Lib.hid (show E.cell? ⟨w.heap.size, 2, none⟩ = some (.bool x.egd) by rw [hEq]; simp [go_sem])
  have K3 := Lib.hid (show E.cell? ⟨w.heap.size, 3, none⟩ = some (.int .i64 x.left) by rw [hEq]; simp [go_sem])
  have K4 := Lib.hid (show E.cell? ⟨w.heap.size, 4, none⟩ = some (.int .i64 x.right) by rw [hEq]; simp [go_sem])
  have hcon := fun (q : Bool) (hq : depOk l x = q) => specIsValidDependency_at (.slice A l.length a0) l (.agg #[.slice P x.body.length c, .slice Q x.head.length d, .bool x.egd, .int .i64 x.left, .int .i64 x.right]) x q hq E ((HL.out.below hE (Nat.le_refl _)).more hE.size) hn (HX.out.later hE) hw
  have h61 : ByteArray.size ⟨#[61]⟩ = 1 := rfl
  have h62 : ByteArray.size ⟨#[62]⟩ = 1 := rfl
  cases hok : depOk l x with
  | false =>
    have HV := Lib.hid (fmtDep_no hok)
    replace hcon := hcon false hok
    clear hok
    rw [hEq] at hcon
    go_enter Tryz.func123, Tryz.ntmps123
    go_wp2_with (go_at_call 83; refine hcon.mono ?_; rintro e w1 ⟨rfl, hb1⟩)
    rw [← hEq] at hb1
    go_ret
    exact ⟨ret_str (by rw [HV.out]), hE.trans (hb1.mono hE.size)⟩
  | true =>
    have hbody := depOk_body hok
    replace hcon := hcon true hok
    have hjl1 : ByteArray.size ⟨(joinAtoms l x.body).toArray⟩ ≤ 10 := by
      rw [size_mk]; have := joinAtoms_len l x.body x.body.length (Nat.le_refl _); rw [List.take_of_length_le (Nat.le_refl _)] at this; omega
    have cb := fun (w1 : World) (hb1 : Below w.heap.size w w1) => specL10Atoms_any (.slice A l.length a0) l (.slice P x.body.length c) x.body w1 ((HL.out.below hb1 (Nat.le_refl _)).more hb1.size) hn ((HR.out.below hb1 (Nat.le_refl _)).more hb1.size) hw.1 hbody.2.1
    cases hg : x.egd with
    | true =>
      have HS := Lib.hid (show (((⟨(joinAtoms l x.body).toArray⟩ : ByteArray) ++ ⟨#[61]⟩) ++ ⟨(fmtT x.left).toArray⟩) ++ ⟨(fmtT x.right).toArray⟩ = ⟨(fmtDep l x).toArray⟩ by
        rw [fmtDep_egd hok hg, show (⟨#[61]⟩ : ByteArray) = ⟨([61] : List UInt8).toArray⟩ from rfl, mk_app, mk_app, mk_app]; simp)
      have hf1 : ByteArray.size ⟨(fmtT x.left).toArray⟩ ≤ 1 := by rw [size_mk]; exact fmtT_len _
      have hf2 : ByteArray.size ⟨(fmtT x.right).toArray⟩ ≤ 1 := by rw [size_mk]; exact fmtT_len _
      have ct1 := fun (w1 : World) => specFormatTerm_any x.left w1
      have ct2 := fun (w1 : World) => specFormatTerm_any x.right w1
      rw [hEq] at hcon
      rw [hg] at hcon K2 hEq
      clear hbody hok
      generalize (⟨(joinAtoms l x.body).toArray⟩ : ByteArray) = J at *
      generalize (⟨(fmtT x.left).toArray⟩ : ByteArray) = F1 at *
      generalize (⟨(fmtT x.right).toArray⟩ : ByteArray) = F2 at *
      go_enter Tryz.func123, Tryz.ntmps123
      go_wp2_with fail
      refine hcon.mono ?_
      rw [← hEq]
      clear hEq hcon
      rintro e w1 ⟨rfl, hb1⟩
      have hz1 := hb1.size
      have hW1 := hE.trans (hb1.mono hE.size)
      have f2 := (hb1.cell (p := ⟨w.heap.size, 2, none⟩) hEz).trans K2.out
      have hlt1 : w.heap.size < w1.heap.size := by omega
      have G0 := Aft.cell hlt1 ((hb1.cell (p := ⟨w.heap.size, 0, none⟩) hEz).trans K0.out)
      have G3 := Aft.cell hlt1 ((hb1.cell (p := ⟨w.heap.size, 3, none⟩) hEz).trans K3.out)
      have G4 := Aft.cell hlt1 ((hb1.cell (p := ⟨w.heap.size, 4, none⟩) hEz).trans K4.out)
      go_wp2
      clear f2
      refine wp_region_aft (Below.refl w1.heap.size w1) (by kernel_rfl) (by kernel_rfl) ?_
      repeat (go_big_quiet_step (first | (go_at_call 194; exact calls_aft (Nat.le_refl _) (cb _ (hW1.trans (Aft.is _ |>.mono hW1.size)))) | (go_at_call 193; (first | with_reducible exact calls_aft (Nat.le_refl _) (ct1 _) | with_reducible exact calls_aft (Nat.le_refl _) (ct2 _)))))
      refine wpQuiet_nil ?_
      refine aft_end ?_
      intro w2 hh
      go_wp2
      go_ret
      exact ⟨ret_str HS.out, hW1.trans (hh.mono hW1.size)⟩
    | false =>
      have hhead := depOk_tgd hok hg
      have HS := Lib.hid (show ((⟨(joinAtoms l x.body).toArray⟩ : ByteArray) ++ ⟨#[62]⟩) ++ ⟨(joinAtoms l x.head).toArray⟩ = ⟨(fmtDep l x).toArray⟩ by
        rw [fmtDep_tgd hok hg, show (⟨#[62]⟩ : ByteArray) = ⟨([62] : List UInt8).toArray⟩ from rfl, mk_app, mk_app]; simp)
      have hjl2 : ByteArray.size ⟨(joinAtoms l x.head).toArray⟩ ≤ 10 := by
        rw [size_mk]; have := joinAtoms_len l x.head x.head.length (Nat.le_refl _); rw [List.take_of_length_le (Nat.le_refl _)] at this; omega
      have ch := fun (w1 : World) (hb1 : Below w.heap.size w w1) => specL10Atoms_any (.slice A l.length a0) l (.slice Q x.head.length d) x.head w1 ((HL.out.below hb1 (Nat.le_refl _)).more hb1.size) hn ((HF.out.below hb1 (Nat.le_refl _)).more hb1.size) hw.2.1 hhead.2.1
      rw [hEq] at hcon
      rw [hg] at hcon K2 hEq
      clear hbody hok hhead
      generalize (⟨(joinAtoms l x.body).toArray⟩ : ByteArray) = J at *
      generalize (⟨(joinAtoms l x.head).toArray⟩ : ByteArray) = F1 at *
      go_enter Tryz.func123, Tryz.ntmps123
      go_wp2_with fail
      refine hcon.mono ?_
      rw [← hEq]
      clear hEq hcon
      rintro e w1 ⟨rfl, hb1⟩
      have hz1 := hb1.size
      have hW1 := hE.trans (hb1.mono hE.size)
      have f2 := (hb1.cell (p := ⟨w.heap.size, 2, none⟩) hEz).trans K2.out
      have hlt1 : w.heap.size < w1.heap.size := by omega
      have G0 := Aft.cell hlt1 ((hb1.cell (p := ⟨w.heap.size, 0, none⟩) hEz).trans K0.out)
      have G1 := Aft.cell hlt1 ((hb1.cell (p := ⟨w.heap.size, 1, none⟩) hEz).trans K1.out)
      go_wp2
      clear f2
      refine wp_region_aft (Below.refl w1.heap.size w1) (by kernel_rfl) (by kernel_rfl) ?_
      repeat (go_big_quiet_step ((go_at_call 194; (first | with_reducible exact calls_aft (Nat.le_refl _) (cb _ (hW1.trans (Aft.is _ |>.mono hW1.size))) | with_reducible exact calls_aft (Nat.le_refl _) (ch _ (hW1.trans (Aft.is _ |>.mono hW1.size)))))))
      refine wpQuiet_nil ?_
      refine aft_end ?_
      intro w2 hh
      go_wp2
      go_ret
      exact ⟨ret_str HS.out, hW1.trans (hh.mono hW1.size)⟩
theorem specFormatDependency_c (v : Value) (l : List Rel) (u : Value) (x : Dep) (w : World) (h : RelationS_at w w.heap.size v l) (_ : RelationS_wf l) (hn : RelationS_sz l ≤ 1048576) (h' : Dependency_at w w.heap.size u x) (hw : Dependency_wf x) (_ : Dependency_sz x ≤ 1048576) :
    Calls Tryz.prog 123 #[v, u] w fun e w' => e = .returned (.string ⟨(fmtDep l x).toArray⟩) ∧ Below w.heap.size w w' :=
  specFormatDep_any v l u x w h (by unfold RelationS_sz at hn; omega) h' hw

set_option maxHeartbeats 3200000 in
set_option maxRecDepth 100000 in
theorem specAreValidDeps_any (v : Value) (l : List Rel) (u : Value) (xs : List Dep) (w : World) (hl : RelsAt w w.heap.size v l) (hln : l.length ≤ 1048576) (h : DependencyS_at w w.heap.size u xs) (hw : DependencyS_wf xs) :
    Calls Tryz.prog 17 #[v, u] w fun e w' => e = .returned (.bool (depsOk l xs)) ∧ Below w.heap.size w w' := by
  have HL := Lib.hid hl
  have HX := Lib.hid h
  obtain ⟨A, a0, rfl, hlc, hcm, -⟩ := hl
  obtain ⟨A', c, rfl, hc1, hc2⟩ := h.form
  unfold maxLen at hc2
  clear h
  go_enter Tryz.func17, Tryz.ntmps17
  go_wp2
  go_loopw [5] (fun i wr => ∃ j : Nat, j ≤ xs.length ∧ i = .int .i64 j ∧ Hid (AllTo (depOk l) xs j) ∧ Below w.heap.size w wr) (fun i _ => xs.length - (intOf i).toNat)
  case atStart => exact ⟨0, by omega, rfl, Lib.hid (AllTo.zero _ _), Below.refl _ _⟩
  case round =>
    obtain ⟨j, hj, rfl, HT, hW⟩ := hrel
    have hz := hW.size
    by_cases hlt : j < xs.length
    · obtain ⟨b, off, V, U, rfl, hb, c0, c1, c2, c3, c4, hV, hU⟩ := DependencyS_at.elem HX.out j hlt
      obtain ⟨PV, cV, rfl, -, -⟩ := hV.form
      obtain ⟨PU, cU, rfl, -, -⟩ := hU.form
      replace c0 := (hW.cell (p := ⟨b, off + j * 5, none⟩) hb).trans c0
      replace c1 := (hW.cell (p := ⟨b, off + j * 5 + 1, none⟩) hb).trans c1
      replace c2 := (hW.cell (p := ⟨b, off + j * 5 + 2, none⟩) hb).trans c2
      replace c3 := (hW.cell (p := ⟨b, off + j * 5 + 3, none⟩) hb).trans c3
      replace c4 := (hW.cell (p := ⟨b, off + j * 5 + 4, none⟩) hb).trans c4
      have hcon := fun (q : Bool) (hq : depOk l xs[j] = q) => specIsValidDependency_at (.slice A l.length a0) l (.agg #[.slice PV xs[j].body.length cV, .slice PU xs[j].head.length cU, .bool xs[j].egd, .int .i64 xs[j].left, .int .i64 xs[j].right]) xs[j] q hq wr ((HL.out.below hW (Nat.le_refl _)).more hz) hln ⟨_, _, rfl, (hV.below hW (Nat.le_refl _)).more hz, (hU.below hW (Nat.le_refl _)).more hz⟩ (hw j hlt)
      clear hV hU
      cases hv : depOk l xs[j] with
      | false =>
        have HV := Lib.hid (show depsOk l xs = false by unfold depsOk; rw [all_no hlt hv]; simp)
        replace hcon := hcon false hv
        clear hv
        go_wp2_with (go_at_call 83; refine hcon.mono ?_; rintro e w3 ⟨rfl, hb3⟩)
        go_ret
        exact ⟨ret_bool HV.out.symm, hW.trans (hb3.mono hz)⟩
      | true =>
        have HN := Lib.hid (HT.out.next hlt hv)
        replace hcon := hcon true hv
        clear hv
        go_wp2_with (go_at_call 83; refine hcon.mono ?_; rintro e w3 ⟨rfl, hb3⟩)
        go_roundw
        case rel => exact ⟨j + 1, by omega, by go_num, HN, hW.trans (hb3.mono hz)⟩
        case measure => simp [intOf]; omega
    · obtain rfl : j = xs.length := by omega
      have HA := Lib.hid (show depsOk l xs = (validRels l && decide (((xs.length : Nat) : Int) ≤ 5)) by
        unfold depsOk; rw [HT.out.full, Bool.and_true]
        congr 1
        exact decide_eq_decide.2 (by omega))
      cases hr : validRels l with
      | false =>
        have hcon := specAreValid_at2 l false hr (.slice A l.length a0) wr ((HL.out.below hW (Nat.le_refl _)).more hz)
        have HV := Lib.hid (HA.out.trans (by rw [hr]; rfl : _ = false))
        clear hr
        go_wp2_with (go_at_call 34; refine hcon.mono ?_; rintro e w3 ⟨rfl, hb3⟩)
        go_ret
        exact ⟨ret_bool HV.out.symm, hW.trans (hb3.mono hz)⟩
      | true =>
        have hcon := specAreValid_at2 l true hr (.slice A l.length a0) wr ((HL.out.below hW (Nat.le_refl _)).more hz)
        have HV := Lib.hid (HA.out.trans (by rw [hr]; rfl : _ = decide (((xs.length : Nat) : Int) ≤ 5)))
        clear hr
        go_wp2_with (go_at_call 34; refine hcon.mono ?_; rintro e w3 ⟨rfl, hb3⟩)
        go_ret
        exact ⟨ret_bool HV.out.symm, hW.trans (hb3.mono hz)⟩
theorem specAreValidDependencies_c (v : Value) (l : List Rel) (u : Value) (x : List Dep) (w : World) (h : RelationS_at w w.heap.size v l) (_ : RelationS_wf l) (hn : RelationS_sz l ≤ 1048576) (h' : DependencyS_at w w.heap.size u x) (hw : DependencyS_wf x) (_ : DependencyS_sz x ≤ 1048576) :
    Calls Tryz.prog 17 #[v, u] w fun e w' => e = .returned (.bool (depsOk l x)) ∧ Below w.heap.size w w' :=
  specAreValidDeps_any v l u x w h (by unfold RelationS_sz at hn; omega) h' hw

set_option maxHeartbeats 3200000 in
set_option maxRecDepth 100000 in
theorem specFormatDeps_any (v : Value) (l : List Rel) (u : Value) (xs : List Dep) (w : World) (hl : RelsAt w w.heap.size v l) (hn : l.length ≤ 1048576) (h : DependencyS_at w w.heap.size u xs) (hw : DependencyS_wf xs) :
    Calls Tryz.prog 54 #[v, u] w fun e w' => e = .returned (.string ⟨(fmtDeps l xs).toArray⟩) ∧ Below w.heap.size w w' := by
  have HL := Lib.hid hl
  have HX := Lib.hid h
  obtain ⟨A, a0, rfl, hlc, hcm, -⟩ := hl
  obtain ⟨A', c, rfl, hc1, hc2⟩ := h.form
  unfold maxLen at hc2
  clear h
  have h59 : ByteArray.size ⟨#[59]⟩ = 1 := rfl
  have hAV := fun (w1 : World) (hb1 : Below w.heap.size w w1) => specAreValidDeps_any (.slice A l.length a0) l (.slice A' xs.length c) xs w1 ((HL.out.below hb1 (Nat.le_refl _)).more hb1.size) hn (HX.out.later hb1) hw
  cases hok : depsOk l xs with
  | false =>
    have HV := Lib.hid (fmtDeps_no hok)
    rw [hok] at hAV
    by_cases h0 : xs.length = 0
    · have hd1 : decide ((0 : Int) < (xs.length : Int)) = false := decide_eq_false (by omega)
      have hd2 : decide (0 < xs.length) = false := decide_eq_false (by omega)
      clear hAV h0 hok
      go_enter Tryz.func54, Tryz.ntmps54
      go_wp2
      go_loopw [5, 6] (fun s i wr => i = .int .i64 0 ∧ s = .string ⟨#[]⟩ ∧ Below w.heap.size w wr) (fun _ i _ => xs.length - (intOf i).toNat)
      case atStart => exact ⟨rfl, rfl, Below.refl _ _⟩
      case round =>
        obtain ⟨rfl, rfl, hW⟩ := hrel
        go_wp2
        go_ret
        exact ⟨ret_str (by rw [HV.out]), hW⟩
    · have hd1 : decide ((0 : Int) < (xs.length : Int)) = true := decide_eq_true (by omega)
      have hd2 : decide (0 < xs.length) = true := decide_eq_true (by omega)
      clear h0 hok
      go_enter Tryz.func54, Tryz.ntmps54
      go_wp2
      go_loopw [5, 6] (fun s i wr => i = .int .i64 0 ∧ s = .string ⟨#[]⟩ ∧ Below w.heap.size w wr) (fun _ i _ => xs.length - (intOf i).toNat)
      case atStart => exact ⟨rfl, rfl, Below.refl _ _⟩
      case round =>
        obtain ⟨rfl, rfl, hW⟩ := hrel
        go_wp2_with (go_at_call 17; refine (hAV _ hW).mono ?_; rintro e w2 ⟨rfl, hb2⟩)
        go_ret
        exact ⟨ret_str (by rw [HV.out]), hW.trans (hb2.mono hW.size)⟩
  | true =>
    have HV := Lib.hid (fmtDeps_yes hok)
    have h5 : xs.length ≤ 5 := (depsOk_mem hok).2.1
    rw [hok] at hAV
    clear hok
    go_enter Tryz.func54, Tryz.ntmps54
    go_wp2
    go_loopw [5, 6] (fun s i wr => ∃ j : Nat, j ≤ xs.length ∧ i = .int .i64 j ∧ s = .string ⟨(joinDeps l (xs.take j)).toArray⟩ ∧ Below w.heap.size w wr) (fun _ i _ => xs.length - (intOf i).toNat)
    case atStart => exact ⟨0, by omega, rfl, rfl, Below.refl _ _⟩
    case round =>
      obtain ⟨j, hj, rfl, rfl, hW⟩ := hrel
      have hz := hW.size
      have hsz : ByteArray.size ⟨(joinDeps l (xs.take j)).toArray⟩ ≤ 110 := by
        rw [size_mk]; have := joinDeps_len l xs j hj; omega
      by_cases hlt : j < xs.length
      · have hav := hAV wr hW
        obtain ⟨b, off, V, U, rfl, hb, c0, c1, c2, c3, c4, hV, hU⟩ := DependencyS_at.elem HX.out j hlt
        obtain ⟨PV, cV, rfl, -, -⟩ := hV.form
        obtain ⟨PU, cU, rfl, -, -⟩ := hU.form
        have HV2 := Lib.hid hV
        have HU2 := Lib.hid hU
        have hfl : ByteArray.size ⟨(fmtDep l xs[j]).toArray⟩ ≤ 21 := by rw [size_mk]; exact fmtDep_len _ _
        have hfd := fun (w1 : World) (hb1 : Below w.heap.size w w1) => specFormatDep_any (.slice A l.length a0) l (.agg #[.slice PV xs[j].body.length cV, .slice PU xs[j].head.length cU, .bool xs[j].egd, .int .i64 xs[j].left, .int .i64 xs[j].right]) xs[j] w1 ((HL.out.below hb1 (Nat.le_refl _)).more hb1.size) hn ⟨_, _, rfl, (HV2.out.below hb1 (Nat.le_refl _)).more hb1.size, (HU2.out.below hb1 (Nat.le_refl _)).more hb1.size⟩ (hw j hlt)
        have hd1 : decide ((j : Int) < (xs.length : Int)) = true := decide_eq_true (by omega)
        have hd2 : decide (j < xs.length) = true := decide_eq_true hlt
        have C0 := Lib.hid c0
        have C1 := Lib.hid c1
        have C2 := Lib.hid c2
        have C3 := Lib.hid c3
        have C4 := Lib.hid c4
        clear c0 c1 c2 c3 c4 hV hU hAV
        rcases Nat.eq_zero_or_pos j with h0 | h0
        all_goals
          first
            | (have hg1 : decide ((0 : Int) < (j : Int)) = false := decide_eq_false (by omega)
               have hg2 : decide (0 < j) = false := decide_eq_false (by omega)
               have HS' := Lib.hid (show (⟨(joinDeps l (xs.take j)).toArray⟩ : ByteArray) ++ ⟨(fmtDep l xs[j]).toArray⟩ = ⟨(joinDeps l (xs.take (j + 1))).toArray⟩ by
                 subst h0
                 rw [joinDeps_one l xs hlt, mk_app]; rfl))
            | (have hg1 : decide ((0 : Int) < (j : Int)) = true := decide_eq_true (by omega)
               have hg2 : decide (0 < j) = true := decide_eq_true (by omega)
               have HS' := Lib.hid (show ((⟨(joinDeps l (xs.take j)).toArray⟩ : ByteArray) ++ ⟨#[59]⟩) ++ ⟨(fmtDep l xs[j]).toArray⟩ = ⟨(joinDeps l (xs.take (j + 1))).toArray⟩ by
                 rw [joinDeps_succ l xs j h0 hlt, show (⟨#[59]⟩ : ByteArray) = ⟨([59] : List UInt8).toArray⟩ from rfl, mk_app, mk_app, List.append_assoc]))
          clear h0
          generalize (⟨(joinDeps l (xs.take j)).toArray⟩ : ByteArray) = J at *
          generalize (⟨(fmtDep l xs[j]).toArray⟩ : ByteArray) = I at *
          go_wp2_with fail
          refine hav.mono ?_
          rintro e w2 ⟨rfl, hb2⟩
          have hW2 := hW.trans (hb2.mono hz)
          have c0 := (hW2.cell (p := ⟨b, off + j * 5, none⟩) hb).trans C0.out
          have c1 := (hW2.cell (p := ⟨b, off + j * 5 + 1, none⟩) hb).trans C1.out
          have c2 := (hW2.cell (p := ⟨b, off + j * 5 + 2, none⟩) hb).trans C2.out
          have c3 := (hW2.cell (p := ⟨b, off + j * 5 + 3, none⟩) hb).trans C3.out
          have c4 := (hW2.cell (p := ⟨b, off + j * 5 + 4, none⟩) hb).trans C4.out
          have hfd2 := hfd w2 hW2
          clear hav hfd
          go_wp2_with (go_at_call 123; refine hfd2.mono ?_; rintro e w3 ⟨rfl, hb3⟩)
          go_roundw
          case rel => exact ⟨j + 1, by omega, by go_num, by rw [← HS'.out], hW2.trans (hb3.mono hW2.size)⟩
          case measure => simp [intOf]; omega
      · obtain rfl : j = xs.length := by omega
        have hd1 : decide ((xs.length : Int) < (xs.length : Int)) = false := decide_eq_false (by omega)
        have HE := Lib.hid (show (⟨(joinDeps l (xs.take xs.length)).toArray⟩ : ByteArray) = ⟨(fmtDeps l xs).toArray⟩ by rw [List.take_of_length_le (Nat.le_refl _), HV.out])
        go_wp2
        go_ret
        exact ⟨ret_str HE.out, hW⟩
theorem specFormatDependencies_c (v : Value) (l : List Rel) (u : Value) (x : List Dep) (w : World) (h : RelationS_at w w.heap.size v l) (_ : RelationS_wf l) (hn : RelationS_sz l ≤ 1048576) (h' : DependencyS_at w w.heap.size u x) (hw : DependencyS_wf x) (_ : DependencyS_sz x ≤ 1048576) :
    Calls Tryz.prog 54 #[v, u] w fun e w' => e = .returned (.string ⟨(fmtDeps l x).toArray⟩) ∧ Below w.heap.size w w' :=
  specFormatDeps_any v l u x w h (by unfold RelationS_sz at hn; omega) h' hw

end Go.Proofs.YtmecdjincmkofaaGreatDoor
