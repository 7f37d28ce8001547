/-
  Walks and plain lemmas for the laws of this seat: what single Go functions return, for every argument.
-/
import Derived.Test.YteogknfhafdbmaaGreatDoorBase
import Derived.Test.YteogknfhafdbmaaGreatDoorRels
namespace Go.Proofs.YteogknfhafdbmaaGreatDoor
open Go.RowKit

set_option maxHeartbeats 800000 in
theorem specRelationIndex_any (v : Value) (l : List Rel) (s : ByteArray) (w : World) (hl : RelsAt w w.heap.size v l) :
    Calls Tryz.prog 20 #[v, .string s] w fun e w' => e = .returned (.int .i64 (relIdx s l)) ∧ w = w' := by
  have HL := Lib.hid hl
  obtain ⟨A, c, rfl, hlc, hcm, -⟩ := hl
  unfold maxLen at hcm
  go_enter Tryz.func20, Tryz.ntmps20
  go_wp2
  go_loop [5] (fun i => ∃ k : Nat, k ≤ l.length ∧ i = .int .i64 k ∧ Hid (NoneTo s l k)) (fun i => l.length - (intOf i).toNat)
  case atStart => exact ⟨0, by omega, rfl, Lib.hid (NoneTo.zero s l)⟩
  case round =>
    obtain ⟨k, hk, rfl, HT⟩ := hrel
    by_cases hlt : k < l.length
    · obtain ⟨b, off, rfl, hb, c0, c1, c2⟩ := RelsAt.elem HL.out k hlt
      by_cases he : l[k].name = s
      · have HV := Lib.hid (HT.out.hit hlt he)
        have he' : (l[k].name.toList == s.toList) = true := by rw [he]; exact str_eq s
        clear he
        go_wp2
        go_ret
        exact ⟨ret_int HV.out.symm, rfl⟩
      · have HV := Lib.hid (HT.out.next hlt he)
        have he' := str_ne he
        clear he
        go_wp2
        go_round
        case rel => exact ⟨k + 1, by omega, by go_num, HV⟩
        case measure => simp [intOf]; omega
    · obtain rfl : k = l.length := by omega
      have HV := Lib.hid HT.out.miss
      go_wp2
      go_ret
      exact ⟨ret_int HV.out.symm, rfl⟩

set_option maxHeartbeats 800000 in
theorem relIndexEq_any (s : ByteArray) (a : Int) (b : Bool) (B : Nat) (t : ByteArray) (q : Bool) (hq : (s.toList == t.toList) = q) (w : World) (hB : B < w.heap.size) (hc : w.cell? ⟨B, 0, none⟩ = some (.string t)) :
    Calls Tryz.prog 50 #[.agg #[.string s, .int .i64 a, .bool b], .pointer (some ⟨B, 0, none⟩)] w fun e w' => e = .returned (.bool q) ∧ Below w.heap.size w w' := by
  have hne : w.heap.size ≠ B := by omega
  go_enter Tryz.func50, Tryz.ntmps50
  go_wp2
  go_ret
  exact ⟨rfl, below_more (Below.refl _ _) _⟩
set_option maxHeartbeats 1600000 in
theorem indexFuncRel_any (v : Value) (l : List Rel) (s : ByteArray) (B : Nat) (w : World) (hl : RelsAt w w.heap.size v l) (hB : B < w.heap.size) (hc : w.cell? ⟨B, 0, none⟩ = some (.string s)) :
    Calls Tryz.prog 49 #[v, .func (.func 50) #[] #[.pointer (some ⟨B, 0, none⟩)]] w fun e w' => e = .returned (.int .i64 (relIdx s l)) ∧ Below w.heap.size w w' := by
  have HL := Lib.hid hl
  obtain ⟨A, c, rfl, hlc, hcm, -⟩ := hl
  unfold maxLen at hcm
  go_enter Tryz.func49, Tryz.ntmps49
  go_wp2
  go_loopw [8] (fun i wr => ∃ k : Nat, k ≤ l.length ∧ i = .int .i64 k ∧ Hid (NoneTo s l k) ∧ Below w.heap.size w wr) (fun i _ => l.length - (intOf i).toNat)
  case atStart => exact ⟨0, by omega, rfl, Lib.hid (NoneTo.zero s l), Below.refl _ _⟩
  case round =>
    obtain ⟨k, hk, rfl, HT, hW⟩ := hrel
    have hz := hW.size
    have hBr : B < wr.heap.size := by omega
    have hcr := (hW.cell (p := ⟨B, 0, none⟩) hB).trans hc
    clear hc
    by_cases hlt : k < l.length
    · obtain ⟨b, off, rfl, hb, c0, c1, c2⟩ := RelsAt.elem (HL.out.below hW (Nat.le_refl _)) k hlt
      by_cases he : l[k].name = s
      · have HV := Lib.hid (HT.out.hit hlt he)
        have hcon := relIndexEq_any l[k].name l[k].arity l[k].source B s true (by rw [he]; exact str_eq s) wr hBr hcr
        clear he hcr
        go_wp2_with (go_at_call 50; refine hcon.mono ?_; rintro e w1 ⟨rfl, hb1⟩)
        go_ret
        exact ⟨ret_int HV.out.symm, hW.trans (hb1.mono hz)⟩
      · have HV := Lib.hid (HT.out.next hlt he)
        have hcon := relIndexEq_any l[k].name l[k].arity l[k].source B s false (str_ne he) wr hBr hcr
        clear he hcr
        go_wp2_with (go_at_call 50; refine hcon.mono ?_; rintro e w1 ⟨rfl, hb1⟩)
        go_roundw
        case rel => exact ⟨k + 1, by omega, by go_num, HV, hW.trans (hb1.mono hz)⟩
        case measure => simp [intOf]; omega
    · obtain rfl : k = l.length := by omega
      have HV := Lib.hid HT.out.miss
      go_wp2
      go_ret
      exact ⟨ret_int HV.out.symm, hW⟩
set_option maxHeartbeats 800000 in
theorem implRelationIndex_any (v : Value) (l : List Rel) (s : ByteArray) (w : World) (hl : RelsAt w w.heap.size v l) :
    Calls Tryz.prog 27 #[v, .string s] w fun e w' => e = .returned (.int .i64 (relIdx s l)) ∧ Below w.heap.size w w' := by
  go_enter Tryz.func27, Tryz.ntmps27
  go_wp2_with fail
  refine (indexFuncRel_any v l s w.heap.size _ ((hl.below ((Below.refl _ _).alloc (Nat.le_refl _) _) (Nat.le_refl _)).more (by simp)) (by simp) (box_cell _ _ _ 0)).mono ?_
  rintro e w1 ⟨rfl, hb1⟩
  go_wp2
  go_ret
  exact ⟨rfl, ((Below.refl _ _).alloc (Nat.le_refl _) _).trans (hb1.mono (by simp))⟩

end Go.Proofs.YteogknfhafdbmaaGreatDoor
