/-
  Walks and plain lemmas for the laws of this seat: what single Go functions return, for every argument.
-/
import Derived.Test.YteogknfhafdbmaaDoorFmtR
import Derived.Test.YteogknfhafdbmaaDoorFmtI
namespace Go.Proofs.YteogknfhafdbmaaDoor
open Go.RowKit

def fmtRelB (r : Rel) : ByteArray := ⟨(fmtRel r).toArray⟩
theorem fmtRelB_src (r : Rel) (h : r.source = true) : (⟨#[43]⟩ : ByteArray) ++ (r.name ++ ⟨(Lib.itoa r.arity).toArray⟩) = fmtRelB r := by
  apply bytes_ext; simp [fmtRelB, fmtRel, h, ByteArray.data_append]
theorem fmtRelB_tgt (r : Rel) (h : r.source = false) : r.name ++ ⟨(Lib.itoa r.arity).toArray⟩ = fmtRelB r := by
  apply bytes_ext; simp [fmtRelB, fmtRel, h, ByteArray.data_append]
set_option maxHeartbeats 1600000 in
theorem formatRelation_any (r : Rel) (hok : relOk r.name r.arity = true) (w : World) (ht : Tab w) :
    Calls Tryd.prog 53 #[.agg #[.string r.name, .int .i64 r.arity, .bool r.source]] w fun e w' => e = .returned (.string (fmtRelB r)) ∧ Below w.heap.size w w' := by
  have h0 := relOk_bd _ _ hok
  have hsn : r.name.size ≤ 1 := by omega
  have hI : ByteArray.size ⟨(Lib.itoa r.arity).toArray⟩ ≤ 2 := by rw [size_mk]; exact itoa_le2 _ (by omega) (by omega)
  have hcon := fun w ht => implFormatInt_any r.arity w (by omega) (by omega) ht
  have h2 : ByteArray.size ⟨#[43]⟩ = 1 := rfl
  have HS := Lib.hid (fmtRelB_src r)
  have HT := Lib.hid (fmtRelB_tgt r)
  clear h0 hok
  generalize (⟨(Lib.itoa r.arity).toArray⟩ : ByteArray) = I at *
  cases hsrc : r.source with
  | true =>
    have HV := Lib.hid (HS.out hsrc)
    clear hsrc
    go_enter Tryd.func53, Tryd.ntmps53
    go_wp2
    refine wp_region_at (fun w0 => Below w.heap.size w w0 ∧ w.heap.size < w0.heap.size ∧ w0.cell? ⟨w.heap.size, 0, none⟩ = some (.string r.name) ∧ w0.cell? ⟨w.heap.size, 1, none⟩ = some (.int .i64 r.arity) ∧ w0.cell? ⟨w.heap.size, 2, none⟩ = some (.bool true))
      ⟨(Below.refl _ _).alloc (Nat.le_refl _) _, by simp, box_cell _ _ _ 0, box_cell _ _ _ 1, box_cell _ _ _ 2⟩ (by kernel_rfl) (by kernel_rfl) ?_
    rintro w0 ⟨hW0, hlt0, e0, e1, e2⟩
    have hz0 := hW0.size
    have hcon' := fun u : Aft w0.heap.size w0 => hcon u.now (ht.below (hW0.trans (u.is.mono hz0)))
    replace e0 := Aft.cell hlt0 e0
    replace e1 := Aft.cell hlt0 e1
    repeat (go_big_quiet_step (((go_at_call 44; exact calls_aft (Nat.le_refl _) (hcon' _)))))
    refine wpQuiet_nil ?_
    refine aft_end ?_
    intro w1 hh
    replace e2 := (hh.cell (p := ⟨w.heap.size, 2, none⟩) hlt0).trans e2
    replace hh := hW0.trans (hh.mono hz0)
    clear e0 e1 hcon hcon'
    go_wp2
    go_ret
    exact ⟨ret_str HV.out, hh⟩
  | false =>
    have HV := Lib.hid (HT.out hsrc)
    clear hsrc
    go_enter Tryd.func53, Tryd.ntmps53
    go_wp2
    refine wp_region_at (fun w0 => Below w.heap.size w w0 ∧ w.heap.size < w0.heap.size ∧ w0.cell? ⟨w.heap.size, 0, none⟩ = some (.string r.name) ∧ w0.cell? ⟨w.heap.size, 1, none⟩ = some (.int .i64 r.arity) ∧ w0.cell? ⟨w.heap.size, 2, none⟩ = some (.bool false))
      ⟨(Below.refl _ _).alloc (Nat.le_refl _) _, by simp, box_cell _ _ _ 0, box_cell _ _ _ 1, box_cell _ _ _ 2⟩ (by kernel_rfl) (by kernel_rfl) ?_
    rintro w0 ⟨hW0, hlt0, e0, e1, e2⟩
    have hz0 := hW0.size
    have hcon' := fun u : Aft w0.heap.size w0 => hcon u.now (ht.below (hW0.trans (u.is.mono hz0)))
    replace e0 := Aft.cell hlt0 e0
    replace e1 := Aft.cell hlt0 e1
    repeat (go_big_quiet_step (((go_at_call 44; exact calls_aft (Nat.le_refl _) (hcon' _)))))
    refine wpQuiet_nil ?_
    refine aft_end ?_
    intro w1 hh
    replace e2 := (hh.cell (p := ⟨w.heap.size, 2, none⟩) hlt0).trans e2
    replace hh := hW0.trans (hh.mono hz0)
    clear e0 e1 hcon hcon'
    go_wp2
    go_ret
    exact ⟨ret_str HV.out, hh⟩

end Go.Proofs.YteogknfhafdbmaaDoor
