/-
  Walks and plain lemmas for the laws of this seat: what single Go functions return, for every argument.
-/
import Derived.Test.YteogknfhafdbmaaDoorStrs
import Derived.Test.YteogknfhafdbmaaDoorFactVI
import Derived.Test.YteogknfhafdbmaaDoorFmtRI
namespace Go.Proofs.YteogknfhafdbmaaDoor
open Go.RowKit

theorem implAreValid_at (l : List Rel) (b : Bool) (h : validRels l = b) (v : Value) (w : World) (hl : RelsAt w w.heap.size v l) :
    Calls Tryd.prog 50 #[v] w fun e w' => e = .returned (.bool b) ∧ Below w.heap.size w w' := by
  subst h; exact implAreValidRelations_any v l w hl
theorem take_empty_set (l : List Rel) (k : Nat) (h : k < l.length) : ((l.take k).map fmtRelB ++ List.replicate (l.length - k) ByteArray.empty).set k (fmtRelB l[k]) = (l.take (k + 1)).map fmtRelB ++ List.replicate (l.length - (k + 1)) ByteArray.empty := by
  have e : ((l.take k).map fmtRelB).length = k := by simp; omega
  rw [List.set_append_right _ _ (by omega), e, Nat.sub_self, List.take_succ_eq_append_getElem h, show l.length - k = (l.length - (k + 1)) + 1 by omega, List.replicate_succ, List.set_cons_zero, List.map_append, List.append_assoc]
  rfl
theorem join_fmtRelB (l : List Rel) : Lib.join ((l.map fmtRelB).map (·.data.toList)) [32] = joinRels l := by
  unfold joinRels
  rw [List.map_map]
  rfl
set_option maxHeartbeats 3200000 in
theorem implFormatRelations_any (v : Value) (l : List Rel) (w : World) (hl : RelsAt w w.heap.size v l) (ht : Tab w) :
    Calls Tryd.prog 34 #[v] w fun e w' => e = .returned (.string ⟨(fmtRels l).toArray⟩) ∧ Below w.heap.size w w' := by
  have HL := Lib.hid hl
  cases hv : validRels l with
  | false =>
    have hcon := implAreValid_at l false hv v w hl
    have HV := Lib.hid (fmtRels_no l hv)
    clear hv hl HL
    go_enter Tryd.func34, Tryd.ntmps34
    go_wp2_with (go_at_call 50; refine hcon.mono ?_; rintro e w1 ⟨rfl, hb1⟩)
    go_ret
    exact ⟨ret_str (by rw [HV.out]), hb1⟩
  | true =>
    have hcon := implAreValid_at l true hv v w hl
    have HV := Lib.hid (fmtRels_yes l hv)
    have HVL := Lib.hid hv
    have h6 := validRels_len l hv
    obtain ⟨A, c, rfl, hlc, hcm, -⟩ := hl
    unfold maxLen at hcm
    clear hv
    have hmk := fun w => make_strs w l.length l.length (Nat.le_refl _) (by omega)
    go_enter Tryd.func34, Tryd.ntmps34
    go_wp2_with (go_at_call 50; refine hcon.mono ?_; rintro e w1 ⟨rfl, hb1⟩)
    clear hcon hmk
    have hz1 := hb1.size
    go_loopw [14] (fun i wr => ∃ k : Nat, k ≤ l.length ∧ i = .int .i64 k ∧ OwnStrs w1.heap.size (.slice (some ⟨w1.heap.size, 0, none⟩) l.length l.length) ((l.take k).map fmtRelB ++ List.replicate (l.length - k) ByteArray.empty) wr ∧ Below w1.heap.size w1 wr) (fun i _ => l.length - (intOf i).toNat)
    case atStart => exact ⟨0, by omega, rfl, OwnStrs.full w1 _ (by omega) _ (Nat.le_refl _), (Below.refl _ _).alloc (Nat.le_refl _) _⟩
    case round =>
      obtain ⟨k, hk, rfl, hO, hW⟩ := hrel
      have hz := hW.size
      have hWw := hb1.trans (hW.mono hz1)
      by_cases hlt : k < l.length
      · obtain ⟨b, off, rfl, hb, c0, c1, c2⟩ := RelsAt.elem (HL.out.below hWw (Nat.le_refl _)) k hlt
        have hO1 := fun w2 (hb2 : Below wr.heap.size wr w2) => hO.below hb2 (Nat.le_refl _)
        have hlen : ((l.take k).map fmtRelB ++ List.replicate (l.length - k) ByteArray.empty).length = l.length := by simp; omega
        have HLen := Lib.hid hlen
        have hkl : k < ((l.take k).map fmtRelB ++ List.replicate (l.length - k) ByteArray.empty).length := by omega
        have hcon := fun w ht => formatRelation_any l[k] (validRels_at l HVL.out k hlt) w ht
        clear hlen hO
        go_wp2_with fail
        refine (hcon _ (ht.below (hWw.trans ((Below.refl _ _).alloc (by omega) _)))).mono ?_
        rintro e w2 ⟨rfl, hb2⟩
        have hB2 := ((Below.refl wr.heap.size wr).alloc (Nat.le_refl _) _).trans (hb2.mono (by simp))
        have hd := (hO1 w2 hB2).cell HLen.out k hkl
        have hfz := (hO1 w2 hB2).frozen HLen.out
        go_wp2
        go_roundw
        case rel => exact ⟨k + 1, by omega, by go_num, by rw [← take_empty_set l k hlt]; exact (hO1 w2 hB2).set HLen.out k _, (hW.trans (hB2.mono hz)).setCell (Nat.le_refl _) _⟩
        case measure => simp [intOf]; omega
      · obtain rfl : k = l.length := by omega
        have hO' : OwnStrs w1.heap.size (.slice (some ⟨w1.heap.size, 0, none⟩) l.length l.length) (l.map fmtRelB) wr := by simpa using hO
        have hcells : ∀ (j : Nat) x, (l.map fmtRelB)[j]? = some x → wr.cell? ⟨w1.heap.size, 0 + j, none⟩ = some (.string x) := by
          intro j x hx
          have hj := (List.getElem?_eq_some_iff.1 hx).1
          rw [Nat.zero_add, hO'.cell (by simp) j hj, ← (List.getElem?_eq_some_iff.1 hx).2]
        have hj := Tryd.strings_Join w1.heap.size 0 l.length (l.map fmtRelB) ⟨#[32]⟩ wr hcells (World.ownsRow.lt hO' w1.heap.size rfl).2 (by simp; omega) (by simp) (by rw [show (⟨#[32]⟩ : ByteArray).data.toList = [32] from rfl, join_fmtRelB]; have := joinRels_len l HVL.out l.length (Nat.le_refl _); rw [List.take_length] at this; omega)
        rw [show (⟨#[32]⟩ : ByteArray).data.toList = [32] from rfl, join_fmtRelB, List.length_map] at hj
        clear hcells hO hO'
        go_wp2_with fail
        refine hj.mono ?_
        rintro e w2 ⟨rfl, hb2⟩
        go_wp2
        go_ret
        exact ⟨ret_str (by rw [HV.out]), hWw.trans (hb2.mono (by omega))⟩

end Go.Proofs.YteogknfhafdbmaaDoor
