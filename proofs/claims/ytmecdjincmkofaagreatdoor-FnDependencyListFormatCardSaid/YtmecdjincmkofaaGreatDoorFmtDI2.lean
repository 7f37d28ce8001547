/-
  Walks and plain lemmas for the laws of this seat: what single Go functions return, for every argument.
-/
import Derived.Test.YtmecdjincmkofaaGreatDoorAft
import Derived.Test.YtmecdjincmkofaaGreatDoorDrawI
import Derived.Test.YtmecdjincmkofaaGreatDoorDepVI
import Derived.Test.YtmecdjincmkofaaGreatDoorParDI
import Derived.Test.YtmecdjincmkofaaGreatDoorParDSI
namespace Go.Proofs.YtmecdjincmkofaaGreatDoor
open Go.RowKit

set_option maxHeartbeats 3200000 in
set_option maxRecDepth 100000 in
theorem implFormatDep_any (v : Value) (l : List Rel) (u : Value) (x : Dep) (w : World) (hl : RelsAt w w.heap.size v l) (h : Dependency_at w w.heap.size u x) (hn : Dependency_sz x ≤ 1048576) (ht : Tab w) :
    Calls Tryz.prog 75 #[v, u] w fun e w' => e = .returned (.string ⟨(fmtDep l x).toArray⟩) ∧ Below w.heap.size w w' := by
  have HL := Lib.hid hl
  have HX := Lib.hid h
  obtain ⟨A, a0, rfl, hlc, hcm, -⟩ := hl
  obtain ⟨P, c, Q, d, rfl⟩ := Dependency_form h
  obtain ⟨V1, V2, hv, hR, hF⟩ := h
  simp only [Value.agg.injEq, Array.mk.injEq, List.cons.injEq, and_true] at hv
  obtain ⟨rfl, rfl⟩ := hv
  have HR := Lib.hid hR
  have HF := Lib.hid hF
  clear hR hF
  obtain ⟨E, hEq⟩ : ∃ E, E = w.alloc (.cells #[.slice P x.body.length c, .slice Q x.head.length d, .bool x.egd, .int .i64 x.left, .int .i64 x.right] 37) := ⟨_, rfl⟩
  have hE : Below w.heap.size w E := by rw [hEq]; exact below_more (Below.refl _ _) _
  have hEz : w.heap.size < E.heap.size := by rw [hEq]; simp
  have K0 := Lib.hid (show E.cell? ⟨w.heap.size, 0, none⟩ = some (.slice P x.body.length c) by rw [hEq]; simp [go_sem])
  have K1 := Lib.hid (show E.cell? ⟨w.heap.size, 1, none⟩ = some (.slice Q x.head.length d) by rw [hEq]; simp [go_sem])
  have K2 := Lib.hid (show E.cell? ⟨w.heap.size, 2, none⟩ = some (.bool x.egd) by rw [hEq]; simp [go_sem])
  have K3 := Lib.hid (show E.cell? ⟨w.heap.size, 3, none⟩ = some (.int .i64 x.left) by rw [hEq]; simp [go_sem])
  have K4 := Lib.hid (show E.cell? ⟨w.heap.size, 4, none⟩ = some (.int .i64 x.right) by rw [hEq]; simp [go_sem])
  have hcon := fun (q : Bool) (hq : depOk l x = q) => implIsValidDependency_at l x q hq (.slice A l.length a0) (.agg #[.slice P x.body.length c, .slice Q x.head.length d, .bool x.egd, .int .i64 x.left, .int .i64 x.right]) E ((HL.out.below hE (Nat.le_refl _)).more hE.size) (HX.out.later hE) hn
  have h61 : ByteArray.size ⟨#[61]⟩ = 1 := rfl
  have h62 : ByteArray.size ⟨#[62]⟩ = 1 := rfl
  cases hok : depOk l x with
  | false =>
    have HV := Lib.hid (fmtDep_no hok)
    replace hcon := hcon false hok
    clear hok
    rw [hEq] at hcon
    go_enter Tryz.func75, Tryz.ntmps75
    go_wp2_with (go_at_call 82; refine hcon.mono ?_; rintro e w1 ⟨rfl, hb1⟩)
    rw [← hEq] at hb1
    go_ret
    exact ⟨ret_str (by rw [HV.out]), hE.trans (hb1.mono hE.size)⟩
  | true =>
    have hbody := depOk_body hok
    replace hcon := hcon true hok
    have hjl1 : ByteArray.size ⟨(joinAtoms l x.body).toArray⟩ ≤ 10 := by
      rw [size_mk]; have := joinAtoms_len l x.body x.body.length (Nat.le_refl _); rw [List.take_of_length_le (Nat.le_refl _)] at this; omega
    have cb := fun (w1 : World) (hb1 : Below w.heap.size w w1) => implFormatAtoms_any (.slice A l.length a0) l (.slice P x.body.length c) x.body w1 ((HL.out.below hb1 (Nat.le_refl _)).more hb1.size) ((HR.out.below hb1 (Nat.le_refl _)).more hb1.size) hbody.2.1 (ht.below hb1)
    cases hg : x.egd with
    | true =>
      have HS := Lib.hid (show (((⟨(joinAtoms l x.body).toArray⟩ : ByteArray) ++ ⟨#[61]⟩) ++ ⟨(fmtT x.left).toArray⟩) ++ ⟨(fmtT x.right).toArray⟩ = ⟨(fmtDep l x).toArray⟩ by
        rw [fmtDep_egd hok hg, show (⟨#[61]⟩ : ByteArray) = ⟨([61] : List UInt8).toArray⟩ from rfl, mk_app, mk_app, mk_app]; simp)
      have hf1 : ByteArray.size ⟨(fmtT x.left).toArray⟩ ≤ 1 := by rw [size_mk]; exact fmtT_len _
      have hf2 : ByteArray.size ⟨(fmtT x.right).toArray⟩ ≤ 1 := by rw [size_mk]; exact fmtT_len _
      have ct1 := fun (w1 : World) (hb1 : Below w.heap.size w w1) => implFormatTerm_any x.left w1 (ht.below hb1)
      have ct2 := fun (w1 : World) (hb1 : Below w.heap.size w w1) => implFormatTerm_any x.right w1 (ht.below hb1)
      rw [hEq] at hcon
      rw [hg] at hcon K2 hEq
      clear hbody hok
      generalize (⟨(joinAtoms l x.body).toArray⟩ : ByteArray) = J at *
      generalize (⟨(fmtT x.left).toArray⟩ : ByteArray) = F1 at *
      generalize (⟨(fmtT x.right).toArray⟩ : ByteArray) = F2 at *
      go_enter Tryz.func75, Tryz.ntmps75
      go_wp2_with fail
      refine hcon.mono ?_
      rw [← hEq]
      clear hEq hcon
      rintro e w1 ⟨rfl, hb1⟩
      have hz1 := hb1.size
      have hW1 := hE.trans (hb1.mono hE.size)
      have f0 := (hb1.cell (p := ⟨w.heap.size, 0, none⟩) hEz).trans K0.out
      go_wp2_with fail
      refine (cb _ hW1).mono ?_
      rintro e w2 ⟨rfl, hb2⟩
      clear f0
      have hb12 := hb1.trans (hb2.mono hz1)
      have hz2 := hb12.size
      have hW2 := hE.trans (hb12.mono hE.size)
      have f2 := (hb12.cell (p := ⟨w.heap.size, 2, none⟩) hEz).trans K2.out
      have hlt1 : w.heap.size < w2.heap.size := by omega
      have G3 := Aft.cell hlt1 ((hb12.cell (p := ⟨w.heap.size, 3, none⟩) hEz).trans K3.out)
      have G4 := Aft.cell hlt1 ((hb12.cell (p := ⟨w.heap.size, 4, none⟩) hEz).trans K4.out)
      go_wp2
      clear f2
      refine wp_region_aft (Below.refl w2.heap.size w2) (by kernel_rfl) (by kernel_rfl) ?_
      repeat (go_big_quiet_step ((go_at_call 161; (first | with_reducible exact calls_aft (Nat.le_refl _) (ct1 _ (hW2.trans (Aft.is _ |>.mono hW2.size))) | with_reducible exact calls_aft (Nat.le_refl _) (ct2 _ (hW2.trans (Aft.is _ |>.mono hW2.size)))))))
      refine wpQuiet_nil ?_
      refine aft_end ?_
      intro w3 hh
      go_wp2
      go_ret
      exact ⟨ret_str HS.out, hW2.trans (hh.mono hW2.size)⟩
    | false =>
      have hhead := depOk_tgd hok hg
      have HS := Lib.hid (show ((⟨(joinAtoms l x.body).toArray⟩ : ByteArray) ++ ⟨#[62]⟩) ++ ⟨(joinAtoms l x.head).toArray⟩ = ⟨(fmtDep l x).toArray⟩ by
        rw [fmtDep_tgd hok hg, show (⟨#[62]⟩ : ByteArray) = ⟨([62] : List UInt8).toArray⟩ from rfl, mk_app, mk_app]; simp)
      have hjl2 : ByteArray.size ⟨(joinAtoms l x.head).toArray⟩ ≤ 10 := by
        rw [size_mk]; have := joinAtoms_len l x.head x.head.length (Nat.le_refl _); rw [List.take_of_length_le (Nat.le_refl _)] at this; omega
      have ch := fun (w1 : World) (hb1 : Below w.heap.size w w1) => implFormatAtoms_any (.slice A l.length a0) l (.slice Q x.head.length d) x.head w1 ((HL.out.below hb1 (Nat.le_refl _)).more hb1.size) ((HF.out.below hb1 (Nat.le_refl _)).more hb1.size) hhead.2.1 (ht.below hb1)
      rw [hEq] at hcon
      rw [hg] at hcon K2 hEq
      clear hbody hok hhead
      generalize (⟨(joinAtoms l x.body).toArray⟩ : ByteArray) = J at *
      generalize (⟨(joinAtoms l x.head).toArray⟩ : ByteArray) = F1 at *
      go_enter Tryz.func75, Tryz.ntmps75
      go_wp2_with fail
      refine hcon.mono ?_
      rw [← hEq]
      clear hEq hcon
      rintro e w1 ⟨rfl, hb1⟩
      have hz1 := hb1.size
      have hW1 := hE.trans (hb1.mono hE.size)
      have f0 := (hb1.cell (p := ⟨w.heap.size, 0, none⟩) hEz).trans K0.out
      go_wp2_with fail
      refine (cb _ hW1).mono ?_
      rintro e w2 ⟨rfl, hb2⟩
      clear f0
      have hb12 := hb1.trans (hb2.mono hz1)
      have hz2 := hb12.size
      have hW2 := hE.trans (hb12.mono hE.size)
      have f2 := (hb12.cell (p := ⟨w.heap.size, 2, none⟩) hEz).trans K2.out
      have hlt1 : w.heap.size < w2.heap.size := by omega
      have f1 := (hb12.cell (p := ⟨w.heap.size, 1, none⟩) hEz).trans K1.out
      go_wp2_with fail
      refine (ch _ hW2).mono ?_
      rintro e w3 ⟨rfl, hb3⟩
      go_wp2
      go_ret
      exact ⟨ret_str HS.out, hW2.trans (hb3.mono hW2.size)⟩
theorem implFormatDependency_c (v : Value) (l : List Rel) (u : Value) (x : Dep) (w : World) (h : RelationS_at w w.heap.size v l) (_ : RelationS_wf l) (_ : RelationS_sz l ≤ 1048576) (h' : Dependency_at w w.heap.size u x) (_ : Dependency_wf x) (hn : Dependency_sz x ≤ 1048576) (ht : Tab w) :
    Calls Tryz.prog 75 #[v, u] w fun e w' => e = .returned (.string ⟨(fmtDep l x).toArray⟩) ∧ Below w.heap.size w w' :=
  implFormatDep_any v l u x w h h' hn ht

def depTx (l : List Rel) (x : Dep) : ByteArray := ⟨(fmtDep l x).toArray⟩
theorem join_depTx (l : List Rel) (xs : List Dep) : Lib.join ((xs.map (depTx l)).map (·.data.toList)) [59] = joinDeps l xs := by
  unfold joinDeps
  rw [List.map_map]
  rfl
set_option maxHeartbeats 3200000 in
set_option maxRecDepth 100000 in
theorem implFormatDeps_any (v : Value) (l : List Rel) (u : Value) (xs : List Dep) (w : World) (hl : RelsAt w w.heap.size v l) (h : DependencyS_at w w.heap.size u xs) (hn : DependencyS_sz xs ≤ 1048576) (ht : Tab w) :
    Calls Tryz.prog 13 #[v, u] w fun e w' => e = .returned (.string ⟨(fmtDeps l xs).toArray⟩) ∧ Below w.heap.size w w' := by
  have HL := Lib.hid hl
  have HX := Lib.hid h
  obtain ⟨A, a0, rfl, -⟩ := hl
  obtain ⟨A', c, rfl, hc1, hc2⟩ := h.form
  unfold maxLen at hc2
  clear h
  have hAV := implAreValidDeps_any (.slice A l.length a0) l (.slice A' xs.length c) xs w HL.out HX.out hn
  have hel : ∀ k (h : k < xs.length), Dependency_sz xs[k] ≤ 1048576 := fun k h => by
    have h1 := depsLen_take xs k h
    have h2 := depsLen_le xs (k + 1)
    unfold DependencyS_sz at hn; omega
  have HEL := Lib.hid hel
  clear hel
  cases hok : depsOk l xs with
  | false =>
    have HV := Lib.hid (fmtDeps_no hok)
    rw [hok] at hAV
    clear hok
    go_enter Tryz.func13, Tryz.ntmps13
    go_wp2_with (go_at_call 16; refine hAV.mono ?_; rintro e w1 ⟨rfl, hb1⟩)
    go_ret
    exact ⟨ret_str (by rw [HV.out]), hb1⟩
  | true =>
    have HV := Lib.hid (fmtDeps_yes hok)
    have h5 : xs.length ≤ 5 := (depsOk_mem hok).2.1
    rw [hok] at hAV
    clear hok
    have hmk := fun w => make_strs w xs.length xs.length (Nat.le_refl _) (by omega)
    go_enter Tryz.func13, Tryz.ntmps13
    go_wp2_with (go_at_call 16; refine hAV.mono ?_; rintro e w1 ⟨rfl, hb1⟩)
    clear hAV hmk
    have hz1 := hb1.size
    go_loopw [17] (fun i wr => ∃ k : Nat, k ≤ xs.length ∧ i = .int .i64 k ∧ OwnStrs w1.heap.size (.slice (some ⟨w1.heap.size, 0, none⟩) xs.length xs.length) ((xs.take k).map (depTx l) ++ List.replicate (xs.length - k) ByteArray.empty) wr ∧ Below w1.heap.size w1 wr) (fun i _ => xs.length - (intOf i).toNat)
    case atStart => exact ⟨0, by omega, rfl, OwnStrs.full w1 _ (by omega) _ (Nat.le_refl _), (Below.refl _ _).alloc (Nat.le_refl _) _⟩
    case round =>
      obtain ⟨k, hk, rfl, hO, hW⟩ := hrel
      have hz := hW.size
      have hWw := hb1.trans (hW.mono hz1)
      by_cases hlt : k < xs.length
      · obtain ⟨b, off, V, U, rfl, hb, c0, c1, c2, c3, c4, hV, hU⟩ := DependencyS_at.elem HX.out k hlt
        obtain ⟨PV, cV, rfl, -, -⟩ := hV.form
        obtain ⟨PU, cU, rfl, -, -⟩ := hU.form
        replace c0 := (hWw.cell (p := ⟨b, off + k * 5, none⟩) hb).trans c0
        replace c1 := (hWw.cell (p := ⟨b, off + k * 5 + 1, none⟩) hb).trans c1
        replace c2 := (hWw.cell (p := ⟨b, off + k * 5 + 2, none⟩) hb).trans c2
        replace c3 := (hWw.cell (p := ⟨b, off + k * 5 + 3, none⟩) hb).trans c3
        replace c4 := (hWw.cell (p := ⟨b, off + k * 5 + 4, none⟩) hb).trans c4
        have hlen : ((xs.take k).map (depTx l) ++ List.replicate (xs.length - k) ByteArray.empty).length = xs.length := by simp; omega
        have HLen := Lib.hid hlen
        have hkl : k < ((xs.take k).map (depTx l) ++ List.replicate (xs.length - k) ByteArray.empty).length := by omega
        have hO1 := fun w2 (hb2 : Below wr.heap.size wr w2) => hO.below hb2 (Nat.le_refl _)
        have HV2 := Lib.hid hV
        have HU2 := Lib.hid hU
        have hcon := fun (w2 : World) (hb2 : Below w.heap.size w w2) => implFormatDep_any (.slice A l.length a0) l (.agg #[.slice PV xs[k].body.length cV, .slice PU xs[k].head.length cU, .bool xs[k].egd, .int .i64 xs[k].left, .int .i64 xs[k].right]) xs[k] w2 ((HL.out.below hb2 (Nat.le_refl _)).more hb2.size) ⟨_, _, rfl, (HV2.out.below hb2 (Nat.le_refl _)).more hb2.size, (HU2.out.below hb2 (Nat.le_refl _)).more hb2.size⟩ (HEL.out k hlt) (ht.below hb2)
        clear hlen hO hV hU
        go_wp2_with fail
        refine (hcon _ (hWw.trans ((Below.refl _ _).alloc hWw.size _))).mono ?_
        rintro e w2 ⟨rfl, hb2⟩
        have hB2 := ((Below.refl wr.heap.size wr).alloc (Nat.le_refl _) _).trans (hb2.mono (by simp))
        have hd := (hO1 w2 hB2).cell HLen.out k hkl
        have hfz := (hO1 w2 hB2).frozen HLen.out
        go_wp2
        go_roundw
        case rel => exact ⟨k + 1, by omega, by go_num, by rw [← strs_fill (depTx l) xs k hlt]; exact (hO1 w2 hB2).set HLen.out k _, (hW.trans (hB2.mono hz)).setCell (Nat.le_refl _) _⟩
        case measure => simp [intOf]; omega
      · obtain rfl : k = xs.length := by omega
        have hO' : OwnStrs w1.heap.size (.slice (some ⟨w1.heap.size, 0, none⟩) xs.length xs.length) (xs.map (depTx l)) wr := by simpa using hO
        have hcells : ∀ (j : Nat) x, (xs.map (depTx l))[j]? = some x → wr.cell? ⟨w1.heap.size, 0 + j, none⟩ = some (.string x) := by
          intro j x hx
          have hj := (List.getElem?_eq_some_iff.1 hx).1
          rw [Nat.zero_add, hO'.cell (by simp) j hj, ← (List.getElem?_eq_some_iff.1 hx).2]
        have hj := Tryz.strings_Join w1.heap.size 0 xs.length (xs.map (depTx l)) ⟨#[59]⟩ wr hcells (World.ownsRow.lt hO' w1.heap.size rfl).2 (by simp; omega) (by simp) (by rw [show (⟨#[59]⟩ : ByteArray).data.toList = [59] from rfl, join_depTx]; have := joinDeps_len l xs xs.length (Nat.le_refl _); rw [List.take_length] at this; omega)
        rw [show (⟨#[59]⟩ : ByteArray).data.toList = [59] from rfl, join_depTx, List.length_map] at hj
        clear hcells hO hO'
        go_wp2_with fail
        refine hj.mono ?_
        rintro e w2 ⟨rfl, hb2⟩
        go_wp2
        go_ret
        exact ⟨ret_str (by rw [HV.out]), hWw.trans (hb2.mono hWw.size)⟩
theorem implFormatDependencies_c (v : Value) (l : List Rel) (u : Value) (x : List Dep) (w : World) (h : RelationS_at w w.heap.size v l) (_ : RelationS_wf l) (_ : RelationS_sz l ≤ 1048576) (h' : DependencyS_at w w.heap.size u x) (_ : DependencyS_wf x) (hn : DependencyS_sz x ≤ 1048576) (ht : Tab w) :
    Calls Tryz.prog 13 #[v, u] w fun e w' => e = .returned (.string ⟨(fmtDeps l x).toArray⟩) ∧ Below w.heap.size w w' :=
  implFormatDeps_any v l u x w h h' hn ht

end Go.Proofs.YtmecdjincmkofaaGreatDoor
