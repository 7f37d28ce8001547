/-
  Walks and plain lemmas for the laws of this seat: what single Go functions return, for every argument.
-/
import Derived.Test.YtmecdjincmkofaaDoorFmtTS
import Derived.Test.YtmecdjincmkofaaDoorDepK
namespace Go.Proofs.YtmecdjincmkofaaDoor
open Go.RowKit

set_option maxHeartbeats 3200000 in
set_option maxRecDepth 100000 in
theorem specFormatDep_any (v : Value) (l : List Rel) (u : Value) (x : Dep) (w : World) (hl : RelsAt w w.heap.size v l) (hn : l.length ≤ 1048576) (h : Dependency_at w w.heap.size u x) (hw : Dependency_wf x) :
    Calls Tryd.prog 17 #[v, u] w fun e w' => e = .returned (.string ⟨(fmtDep l x).toArray⟩) ∧ Below w.heap.size w w' := by
  have HL := Lib.hid hl
  have HX := Lib.hid h
  obtain ⟨A, a0, rfl, hlc, hcm, -⟩ := hl
  obtain ⟨P, c, Q, d, rfl⟩ := Dependency_form h
  obtain ⟨V1, V2, hv, hR, hF⟩ := h
  simp only [Value.agg.injEq, Array.mk.injEq, List.cons.injEq, and_true] at hv
  obtain ⟨rfl, rfl⟩ := hv
  have HR := Lib.hid hR
  have HF := Lib.hid hF
  clear hR hF
  obtain ⟨E, hEq⟩ : ∃ E, E = w.alloc (.cells #[.slice P x.body.length c, .slice Q x.head.length d, .bool x.egd, .int .i64 x.left, .int .i64 x.right] 45) := ⟨_, rfl⟩
  have hE : Below w.heap.size w E := by rw [hEq]; exact below_more (Below.refl _ _) _
  have hEz : w.heap.size < E.heap.size := by rw [hEq]; simp
  have K0 := Lib.hid (show E.cell? ⟨w.heap.size, 0, none⟩ = some (.slice P x.body.length c) by rw [hEq]; simp [go_sem])
  have K1 := Lib.hid (show E.cell? ⟨w.heap.size, 1, none⟩ = some (.slice Q x.head.length d) by rw [hEq]; simp [go_sem])
  have K2 := Lib.hid (show E.cell? ⟨w.heap.size, 2, none⟩ = some (.bool x.egd) by rw [hEq]; simp [go_sem])
  have K3 := Lib.hid (show E.cell? ⟨w.heap.size, 3, none⟩ = some (.int .i64 x.left) by rw [hEq]; simp [go_sem])
  have K4 := Lib.hid (show E.cell? ⟨w.heap.size, 4, none⟩ = some (.int .i64 x.right) by rw [hEq]; simp [go_sem])
  have hcon := fun (q : Bool) (hq : depOk l x = q) => specIsValidDependency_at (.slice A l.length a0) l (.agg #[.slice P x.body.length c, .slice Q x.head.length d, .bool x.egd, .int .i64 x.left, .int .i64 x.right]) x q hq E ((HL.out.below hE (Nat.le_refl _)).more hE.size) hn (HX.out.later hE) hw
  have h61 : ByteArray.size ⟨#[61]⟩ = 1 := rfl
  have h62 : ByteArray.size ⟨#[62]⟩ = 1 := rfl
  cases hok : depOk l x with
  | false =>
    have HV := Lib.hid (fmtDep_no hok)
    replace hcon := hcon false hok
    clear hok
    rw [hEq] at hcon
    go_enter Tryd.func17, Tryd.ntmps17
    go_wp2_with (go_at_call 35; refine hcon.mono ?_; rintro e w1 ⟨rfl, hb1⟩)
    rw [← hEq] at hb1
    go_ret
    exact ⟨ret_str (by rw [HV.out]), hE.trans (hb1.mono hE.size)⟩
  | true =>
    have hbody := depOk_body hok
    replace hcon := hcon true hok
    have hjl1 : ByteArray.size ⟨(joinAtoms l x.body).toArray⟩ ≤ 10 := by
      rw [size_mk]; have := joinAtoms_len l x.body x.body.length (Nat.le_refl _); rw [List.take_of_length_le (Nat.le_refl _)] at this; omega
    have cb := fun (w1 : World) (hb1 : Below w.heap.size w w1) => specL10Atoms_any (.slice A l.length a0) l (.slice P x.body.length c) x.body w1 ((HL.out.below hb1 (Nat.le_refl _)).more hb1.size) hn ((HR.out.below hb1 (Nat.le_refl _)).more hb1.size) hw.1 hbody.2.1
    cases hg : x.egd with
    | true =>
      have HS := Lib.hid (show (((⟨(joinAtoms l x.body).toArray⟩ : ByteArray) ++ ⟨#[61]⟩) ++ ⟨(fmtT x.left).toArray⟩) ++ ⟨(fmtT x.right).toArray⟩ = ⟨(fmtDep l x).toArray⟩ by
        rw [fmtDep_egd hok hg, show (⟨#[61]⟩ : ByteArray) = ⟨([61] : List UInt8).toArray⟩ from rfl, mk_app, mk_app, mk_app]; simp)
      have hf1 : ByteArray.size ⟨(fmtT x.left).toArray⟩ ≤ 1 := by rw [size_mk]; exact fmtT_len _
      have hf2 : ByteArray.size ⟨(fmtT x.right).toArray⟩ ≤ 1 := by rw [size_mk]; exact fmtT_len _
      have ct1 := fun (w1 : World) => specFormatTerm_any x.left w1
      have ct2 := fun (w1 : World) => specFormatTerm_any x.right w1
      rw [hEq] at hcon
      rw [hg] at hcon K2 hEq
      clear hbody hok
      generalize (⟨(joinAtoms l x.body).toArray⟩ : ByteArray) = J at *
      generalize (⟨(fmtT x.left).toArray⟩ : ByteArray) = F1 at *
      generalize (⟨(fmtT x.right).toArray⟩ : ByteArray) = F2 at *
      go_enter Tryd.func17, Tryd.ntmps17
      go_wp2_with fail
      refine hcon.mono ?_
      rw [← hEq]
      clear hEq hcon
      rintro e w1 ⟨rfl, hb1⟩
      have hz1 := hb1.size
      have hW1 := hE.trans (hb1.mono hE.size)
      have f2 := (hb1.cell (p := ⟨w.heap.size, 2, none⟩) hEz).trans K2.out
      have hlt1 : w.heap.size < w1.heap.size := by omega
      have G0 := Aft.cell hlt1 ((hb1.cell (p := ⟨w.heap.size, 0, none⟩) hEz).trans K0.out)
      have G3 := Aft.cell hlt1 ((hb1.cell (p := ⟨w.heap.size, 3, none⟩) hEz).trans K3.out)
      have G4 := Aft.cell hlt1 ((hb1.cell (p := ⟨w.heap.size, 4, none⟩) hEz).trans K4.out)
      go_wp2
      clear f2
      refine wp_region_aft (Below.refl w1.heap.size w1) (by kernel_rfl) (by kernel_rfl) ?_
      repeat (go_big_quiet_step (first | (go_at_call 36; exact calls_aft (Nat.le_refl _) (cb _ (hW1.trans (Aft.is _ |>.mono hW1.size)))) | (go_at_call 6; (first | with_reducible exact calls_aft (Nat.le_refl _) (ct1 _) | with_reducible exact calls_aft (Nat.le_refl _) (ct2 _)))))
      refine wpQuiet_nil ?_
      refine aft_end ?_
      intro w2 hh
      go_wp2
      go_ret
      exact ⟨ret_str HS.out, hW1.trans (hh.mono hW1.size)⟩
    | false =>
      have hhead := depOk_tgd hok hg
      have HS := Lib.hid (show ((⟨(joinAtoms l x.body).toArray⟩ : ByteArray) ++ ⟨#[62]⟩) ++ ⟨(joinAtoms l x.head).toArray⟩ = ⟨(fmtDep l x).toArray⟩ by
        rw [fmtDep_tgd hok hg, show (⟨#[62]⟩ : ByteArray) = ⟨([62] : List UInt8).toArray⟩ from rfl, mk_app, mk_app]; simp)
      have hjl2 : ByteArray.size ⟨(joinAtoms l x.head).toArray⟩ ≤ 10 := by
        rw [size_mk]; have := joinAtoms_len l x.head x.head.length (Nat.le_refl _); rw [List.take_of_length_le (Nat.le_refl _)] at this; omega
      have ch := fun (w1 : World) (hb1 : Below w.heap.size w w1) => specL10Atoms_any (.slice A l.length a0) l (.slice Q x.head.length d) x.head w1 ((HL.out.below hb1 (Nat.le_refl _)).more hb1.size) hn ((HF.out.below hb1 (Nat.le_refl _)).more hb1.size) hw.2.1 hhead.2.1
      rw [hEq] at hcon
      rw [hg] at hcon K2 hEq
      clear hbody hok hhead
      generalize (⟨(joinAtoms l x.body).toArray⟩ : ByteArray) = J at *
      generalize (⟨(joinAtoms l x.head).toArray⟩ : ByteArray) = F1 at *
      go_enter Tryd.func17, Tryd.ntmps17
      go_wp2_with fail
      refine hcon.mono ?_
      rw [← hEq]
      clear hEq hcon
      rintro e w1 ⟨rfl, hb1⟩
      have hz1 := hb1.size
      have hW1 := hE.trans (hb1.mono hE.size)
      have f2 := (hb1.cell (p := ⟨w.heap.size, 2, none⟩) hEz).trans K2.out
      have hlt1 : w.heap.size < w1.heap.size := by omega
      have G0 := Aft.cell hlt1 ((hb1.cell (p := ⟨w.heap.size, 0, none⟩) hEz).trans K0.out)
      have G1 := Aft.cell hlt1 ((hb1.cell (p := ⟨w.heap.size, 1, none⟩) hEz).trans K1.out)
      go_wp2
      clear f2
      refine wp_region_aft (Below.refl w1.heap.size w1) (by kernel_rfl) (by kernel_rfl) ?_
      repeat (go_big_quiet_step ((go_at_call 36; (first | with_reducible exact calls_aft (Nat.le_refl _) (cb _ (hW1.trans (Aft.is _ |>.mono hW1.size))) | with_reducible exact calls_aft (Nat.le_refl _) (ch _ (hW1.trans (Aft.is _ |>.mono hW1.size)))))))
      refine wpQuiet_nil ?_
      refine aft_end ?_
      intro w2 hh
      go_wp2
      go_ret
      exact ⟨ret_str HS.out, hW1.trans (hh.mono hW1.size)⟩
theorem specFormatDependency_c (v : Value) (l : List Rel) (u : Value) (x : Dep) (w : World) (h : RelationS_at w w.heap.size v l) (_ : RelationS_wf l) (hn : RelationS_sz l ≤ 1048576) (h' : Dependency_at w w.heap.size u x) (hw : Dependency_wf x) (_ : Dependency_sz x ≤ 1048576) :
    Calls Tryd.prog 17 #[v, u] w fun e w' => e = .returned (.string ⟨(fmtDep l x).toArray⟩) ∧ Below w.heap.size w w' :=
  specFormatDep_any v l u x w h (by unfold RelationS_sz at hn; omega) h' hw

end Go.Proofs.YtmecdjincmkofaaDoor
