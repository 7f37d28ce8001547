/-
  Walks and plain lemmas for the laws of this seat: what single Go functions return, for every argument.
-/
import Derived.Test.YtmecdjincmkofaaDoorAft
import Derived.Test.YtmecdjincmkofaaDoorFmtTI
import Derived.Test.YtmecdjincmkofaaDoorDepVI
namespace Go.Proofs.YtmecdjincmkofaaDoor
open Go.RowKit

set_option maxHeartbeats 3200000 in
set_option maxRecDepth 100000 in
theorem implFormatDep_any (v : Value) (l : List Rel) (u : Value) (x : Dep) (w : World) (hl : RelsAt w w.heap.size v l) (h : Dependency_at w w.heap.size u x) (hn : Dependency_sz x ≤ 1048576) (ht : Tab w) :
    Calls Tryd.prog 19 #[v, u] w fun e w' => e = .returned (.string ⟨(fmtDep l x).toArray⟩) ∧ Below w.heap.size w w' := by
  have HL := Lib.hid hl
  have HX := Lib.hid h
  obtain ⟨A, a0, rfl, hlc, hcm, -⟩ := hl
  obtain ⟨P, c, Q, d, rfl⟩ := Dependency_form h
  obtain ⟨V1, V2, hv, hR, hF⟩ := h
  simp only [Value.agg.injEq, Array.mk.injEq, List.cons.injEq, and_true] at hv
  obtain ⟨rfl, rfl⟩ := hv
  have HR := Lib.hid hR
  have HF := Lib.hid hF
  clear hR hF
  obtain ⟨E, hEq⟩ : ∃ E, E = w.alloc (.cells #[.slice P x.body.length c, .slice Q x.head.length d, .bool x.egd, .int .i64 x.left, .int .i64 x.right] 45) := ⟨_, rfl⟩
  have hE : Below w.heap.size w E := by rw [hEq]; exact below_more (Below.refl _ _) _
  have hEz : w.heap.size < E.heap.size := by rw [hEq]; simp
  have K0 := Lib.hid (show E.cell? ⟨w.heap.size, 0, none⟩ = some (.slice P x.body.length c) by rw [hEq]; simp [go_sem])
  have K1 := Lib.hid (show E.cell? ⟨w.heap.size, 1, none⟩ = some (.slice Q x.head.length d) by rw [hEq]; simp [go_sem])
  have K2 := Lib.hid (show E.cell? ⟨w.heap.size, 2, none⟩ = some (.bool x.egd) by rw [hEq]; simp [go_sem])
  have K3 := Lib.hid (show E.cell? ⟨w.heap.size, 3, none⟩ = some (.int .i64 x.left) by rw [hEq]; simp [go_sem])
  have K4 := Lib.hid (show E.cell? ⟨w.heap.size, 4, none⟩ = some (.int .i64 x.right) by rw [hEq]; simp [go_sem])
  have hcon := fun (q : Bool) (hq : depOk l x = q) => implIsValidDependency_at l x q hq (.slice A l.length a0) (.agg #[.slice P x.body.length c, .slice Q x.head.length d, .bool x.egd, .int .i64 x.left, .int .i64 x.right]) E ((HL.out.below hE (Nat.le_refl _)).more hE.size) (HX.out.later hE) hn
  have h61 : ByteArray.size ⟨#[61]⟩ = 1 := rfl
  have h62 : ByteArray.size ⟨#[62]⟩ = 1 := rfl
  cases hok : depOk l x with
  | false =>
    have HV := Lib.hid (fmtDep_no hok)
    replace hcon := hcon false hok
    clear hok
    rw [hEq] at hcon
    go_enter Tryd.func19, Tryd.ntmps19
    go_wp2_with (go_at_call 38; refine hcon.mono ?_; rintro e w1 ⟨rfl, hb1⟩)
    rw [← hEq] at hb1
    go_ret
    exact ⟨ret_str (by rw [HV.out]), hE.trans (hb1.mono hE.size)⟩
  | true =>
    have hbody := depOk_body hok
    replace hcon := hcon true hok
    have hjl1 : ByteArray.size ⟨(joinAtoms l x.body).toArray⟩ ≤ 10 := by
      rw [size_mk]; have := joinAtoms_len l x.body x.body.length (Nat.le_refl _); rw [List.take_of_length_le (Nat.le_refl _)] at this; omega
    have cb := fun (w1 : World) (hb1 : Below w.heap.size w w1) => implFormatAtoms_any (.slice A l.length a0) l (.slice P x.body.length c) x.body w1 ((HL.out.below hb1 (Nat.le_refl _)).more hb1.size) ((HR.out.below hb1 (Nat.le_refl _)).more hb1.size) hbody.2.1 (ht.below hb1)
    cases hg : x.egd with
    | true =>
      have HS := Lib.hid (show (((⟨(joinAtoms l x.body).toArray⟩ : ByteArray) ++ ⟨#[61]⟩) ++ ⟨(fmtT x.left).toArray⟩) ++ ⟨(fmtT x.right).toArray⟩ = ⟨(fmtDep l x).toArray⟩ by
        rw [fmtDep_egd hok hg, show (⟨#[61]⟩ : ByteArray) = ⟨([61] : List UInt8).toArray⟩ from rfl, mk_app, mk_app, mk_app]; simp)
      have hf1 : ByteArray.size ⟨(fmtT x.left).toArray⟩ ≤ 1 := by rw [size_mk]; exact fmtT_len _
      have hf2 : ByteArray.size ⟨(fmtT x.right).toArray⟩ ≤ 1 := by rw [size_mk]; exact fmtT_len _
      have ct1 := fun (w1 : World) (hb1 : Below w.heap.size w w1) => implFormatTerm_any x.left w1 (ht.below hb1)
      have ct2 := fun (w1 : World) (hb1 : Below w.heap.size w w1) => implFormatTerm_any x.right w1 (ht.below hb1)
      rw [hEq] at hcon
      rw [hg] at hcon K2 hEq
      clear hbody hok
      generalize (⟨(joinAtoms l x.body).toArray⟩ : ByteArray) = J at *
      generalize (⟨(fmtT x.left).toArray⟩ : ByteArray) = F1 at *
      generalize (⟨(fmtT x.right).toArray⟩ : ByteArray) = F2 at *
      go_enter Tryd.func19, Tryd.ntmps19
      go_wp2_with fail
      refine hcon.mono ?_
      rw [← hEq]
      clear hEq hcon
      rintro e w1 ⟨rfl, hb1⟩
      have hz1 := hb1.size
      have hW1 := hE.trans (hb1.mono hE.size)
      have f0 := (hb1.cell (p := ⟨w.heap.size, 0, none⟩) hEz).trans K0.out
      go_wp2_with fail
      refine (cb _ hW1).mono ?_
      rintro e w2 ⟨rfl, hb2⟩
      clear f0
      have hb12 := hb1.trans (hb2.mono hz1)
      have hz2 := hb12.size
      have hW2 := hE.trans (hb12.mono hE.size)
      have f2 := (hb12.cell (p := ⟨w.heap.size, 2, none⟩) hEz).trans K2.out
      have hlt1 : w.heap.size < w2.heap.size := by omega
      have G3 := Aft.cell hlt1 ((hb12.cell (p := ⟨w.heap.size, 3, none⟩) hEz).trans K3.out)
      have G4 := Aft.cell hlt1 ((hb12.cell (p := ⟨w.heap.size, 4, none⟩) hEz).trans K4.out)
      go_wp2
      clear f2
      refine wp_region_aft (Below.refl w2.heap.size w2) (by kernel_rfl) (by kernel_rfl) ?_
      repeat (go_big_quiet_step ((go_at_call 7; (first | with_reducible exact calls_aft (Nat.le_refl _) (ct1 _ (hW2.trans (Aft.is _ |>.mono hW2.size))) | with_reducible exact calls_aft (Nat.le_refl _) (ct2 _ (hW2.trans (Aft.is _ |>.mono hW2.size)))))))
      refine wpQuiet_nil ?_
      refine aft_end ?_
      intro w3 hh
      go_wp2
      go_ret
      exact ⟨ret_str HS.out, hW2.trans (hh.mono hW2.size)⟩
    | false =>
      have hhead := depOk_tgd hok hg
      have HS := Lib.hid (show ((⟨(joinAtoms l x.body).toArray⟩ : ByteArray) ++ ⟨#[62]⟩) ++ ⟨(joinAtoms l x.head).toArray⟩ = ⟨(fmtDep l x).toArray⟩ by
        rw [fmtDep_tgd hok hg, show (⟨#[62]⟩ : ByteArray) = ⟨([62] : List UInt8).toArray⟩ from rfl, mk_app, mk_app]; simp)
      have hjl2 : ByteArray.size ⟨(joinAtoms l x.head).toArray⟩ ≤ 10 := by
        rw [size_mk]; have := joinAtoms_len l x.head x.head.length (Nat.le_refl _); rw [List.take_of_length_le (Nat.le_refl _)] at this; omega
      have ch := fun (w1 : World) (hb1 : Below w.heap.size w w1) => implFormatAtoms_any (.slice A l.length a0) l (.slice Q x.head.length d) x.head w1 ((HL.out.below hb1 (Nat.le_refl _)).more hb1.size) ((HF.out.below hb1 (Nat.le_refl _)).more hb1.size) hhead.2.1 (ht.below hb1)
      rw [hEq] at hcon
      rw [hg] at hcon K2 hEq
      clear hbody hok hhead
      generalize (⟨(joinAtoms l x.body).toArray⟩ : ByteArray) = J at *
      generalize (⟨(joinAtoms l x.head).toArray⟩ : ByteArray) = F1 at *
      go_enter Tryd.func19, Tryd.ntmps19
      go_wp2_with fail
      refine hcon.mono ?_
      rw [← hEq]
      clear hEq hcon
      rintro e w1 ⟨rfl, hb1⟩
      have hz1 := hb1.size
      have hW1 := hE.trans (hb1.mono hE.size)
      have f0 := (hb1.cell (p := ⟨w.heap.size, 0, none⟩) hEz).trans K0.out
      go_wp2_with fail
      refine (cb _ hW1).mono ?_
      rintro e w2 ⟨rfl, hb2⟩
      clear f0
      have hb12 := hb1.trans (hb2.mono hz1)
      have hz2 := hb12.size
      have hW2 := hE.trans (hb12.mono hE.size)
      have f2 := (hb12.cell (p := ⟨w.heap.size, 2, none⟩) hEz).trans K2.out
      have hlt1 : w.heap.size < w2.heap.size := by omega
      have f1 := (hb12.cell (p := ⟨w.heap.size, 1, none⟩) hEz).trans K1.out
      go_wp2_with fail
      refine (ch _ hW2).mono ?_
      rintro e w3 ⟨rfl, hb3⟩
      go_wp2
      go_ret
      exact ⟨ret_str HS.out, hW2.trans (hb3.mono hW2.size)⟩
theorem implFormatDependency_c (v : Value) (l : List Rel) (u : Value) (x : Dep) (w : World) (h : RelationS_at w w.heap.size v l) (_ : RelationS_wf l) (_ : RelationS_sz l ≤ 1048576) (h' : Dependency_at w w.heap.size u x) (_ : Dependency_wf x) (hn : Dependency_sz x ≤ 1048576) (ht : Tab w) :
    Calls Tryd.prog 19 #[v, u] w fun e w' => e = .returned (.string ⟨(fmtDep l x).toArray⟩) ∧ Below w.heap.size w w' :=
  implFormatDep_any v l u x w h h' hn ht

end Go.Proofs.YtmecdjincmkofaaDoor
