/-
  Walks and plain lemmas for the laws of this seat: what single Go functions return, for every argument.
-/
import Derived.Test.YteogknfhafdbmaaGreatDoorBase
import Derived.Test.YteogknfhafdbmaaGreatDoorInts
import Derived.Test.YteogknfhafdbmaaGreatDoorTyAp
import Derived.Test.YteogknfhafdbmaaGreatDoorTyInst
namespace Go.Proofs.YteogknfhafdbmaaGreatDoor
open Go.RowKit

set_option maxHeartbeats 800000 in
theorem eqIntS_any (v u : Value) (l : List Int) (w : World) (hl : IntsAt w w.heap.size v l) (hm : IntsAt w w.heap.size u l) :
    Calls Tryz.prog 31 #[v, u] w fun e w' => e = .returned (.bool true) ∧ Below w.heap.size w w' := by
  have HL := Lib.hid hl
  have HM := Lib.hid hm
  obtain ⟨A, c, rfl, hlc, hcm, -⟩ := hl
  obtain ⟨A', c', rfl, hlc', hcm', -⟩ := hm
  unfold maxLen at hcm hcm'
  go_enter Tryz.func31, Tryz.ntmps31
  go_wp2
  go_loopw [5] (fun i wr => ∃ k : Nat, k ≤ l.length ∧ i = .int .i64 k ∧ Below w.heap.size w wr) (fun i _ => l.length - (intOf i).toNat)
  case atStart => exact ⟨0, by omega, rfl, Below.refl _ _⟩
  case round =>
    obtain ⟨k, hk, rfl, hW⟩ := hrel
    by_cases hlt : k < l.length
    · obtain ⟨b, off, rfl, hb, c0⟩ := IntsAt.elem HL.out k hlt
      obtain ⟨b', off', rfl, hb', d0⟩ := IntsAt.elem HM.out k hlt
      have C0 := Aft.cell hb c0
      have D0 := Aft.cell hb' d0
      clear c0 d0
      go_wp2
      refine wp_region_aft hW (by kernel_rfl) (by kernel_rfl) ?_
      repeat (go_big_quiet_step (fail))
      refine wpQuiet_nil ?_
      refine aft_end ?_
      intro w1 hh
      go_wp2
      go_roundw
      case rel => exact ⟨k + 1, by omega, by go_num, hh⟩
      case measure => simp [intOf]; omega
    · obtain rfl : k = l.length := by omega
      go_wp2
      go_ret
      exact ⟨rfl, hW⟩

set_option maxHeartbeats 400000 in
theorem eqFact_any (r : Int) (v u : Value) (l : List Int) (w : World) (hl : IntsAt w w.heap.size v l) (hm : IntsAt w w.heap.size u l) :
    Calls Tryz.prog 9 #[.agg #[.int .i64 r, v], .agg #[.int .i64 r, u]] w fun e w' => e = .returned (.bool true) ∧ Below w.heap.size w w' := by
  have hb : Below w.heap.size w ((w.alloc (.cells #[.int .i64 r, v] 26)).alloc (.cells #[.int .i64 r, u] 26)) := below_more (below_more (Below.refl _ _) _) _
  have hcon := eqIntS_any v u l _ ((hl.below hb (Nat.le_refl _)).more hb.size) ((hm.below hb (Nat.le_refl _)).more hb.size)
  clear hl hm
  go_enter Tryz.func9, Tryz.ntmps9
  go_wp2_with fail
  refine hcon.mono ?_
  rintro e w' ⟨rfl, hb'⟩
  go_wp2
  go_ret
  exact ⟨rfl, hb.trans (hb'.mono hb.size)⟩

theorem eqFact_c (v u : Value) (x : Fct) (w : World) (h : Fact_at w w.heap.size v x) (h' : Fact_at w w.heap.size u x) :
    Calls Tryz.prog 9 #[v, u] w fun e w' => e = .returned (.bool true) ∧ Below w.heap.size w w' := by
  obtain ⟨V, rfl, h⟩ := h
  obtain ⟨U, rfl, h'⟩ := h'
  exact eqFact_any x.rel V U x.vals w h h'

set_option maxHeartbeats 1600000 in
theorem markIntS_any (B : Nat) (v : Value) (l : List Int) (k : Nat) (w : World) (hO : OwnInts B v l w) (hn : l.length ≤ 1048576) (hk2 : k ≤ 1000000000000) :
    Calls Tryz.prog 34 #[v, .int .i64 (k : Int)] w fun e w' => e = .returned (.int .i64 ((k : Int) + (l.length : Nat))) ∧ OwnInts B v (markInts k l.length) w' ∧ Chg (fun g => v.ownBlock = some g) w w' := by
  obtain ⟨A, c, rfl, hc1, hc2, -⟩ := hO.at_
  unfold maxLen at hc2
  go_enter Tryz.func34, Tryz.ntmps34
  go_wp2
  go_loopw [1, 5] (fun x j wr => ∃ i : Nat, i ≤ l.length ∧ j = .int .i64 (i : Int) ∧ x = .int .i64 ((k : Int) + (i : Int)) ∧ OwnInts B (.slice A l.length c) (markInts k i ++ l.drop i) wr ∧ Chg (fun g => (Value.slice A l.length c).ownBlock = some g) w wr) (fun _ j _ => l.length - (intOf j).toNat)
  case atStart => exact ⟨0, by omega, rfl, by go_num, hO, Chg.refl _ _⟩
  case round =>
    obtain ⟨i, hi, rfl, rfl, hO1, hW⟩ := hrel
    by_cases hlt : i < l.length
    · have hlen : (markInts k i ++ l.drop i).length = l.length := by rw [List.length_append, markInts_len, List.length_drop]; omega
      obtain ⟨g, cap, hv, hg0, hg1⟩ := World.ownsRow.form hO1 (by omega)
      simp only [Value.slice.injEq] at hv
      obtain ⟨rfl, hv1, rfl⟩ := hv
      clear hv1
      have hkl : i < (markInts k i ++ l.drop i).length := by omega
      have d0 := hO1.cell hlen i hkl
      have hfz := hO1.frozen hlen
      have hS := hO1.set hlen i ((k + i : Nat) : Int)
      rw [markInts_set l k i hlt, show ((k + i : Nat) : Int) = (k : Int) + (i : Int) by omega] at hS
      have HS := Lib.hid hS
      clear hlen hS
      go_wp2
      go_roundw
      case rel => exact ⟨i + 1, by omega, by go_num, by go_num, HS.out, hW.setCell (p := ⟨g, i, none⟩) rfl _⟩
      case measure => simp [intOf]; omega
    · obtain rfl : i = l.length := by omega
      have hO' : OwnInts B (.slice A l.length c) (markInts k l.length) wr := by simpa using hO1
      clear hO1
      go_wp2
      go_ret
      exact ⟨rfl, hO', hW⟩
set_option maxHeartbeats 1600000 in
theorem heldIntS_any (v : Value) (n : Nat) (k B : Nat) (w : World) (hl : IntsAt w B v (markInts k n)) (hn : n ≤ 1048576) (hk2 : k ≤ 1000000000000) :
    Calls Tryz.prog 35 #[v, .int .i64 (k : Int)] w fun e w' => e = .returned (.int .i64 ((k : Int) + (n : Nat))) ∧ w = w' := by
  have HL := Lib.hid hl
  obtain ⟨A, c, rfl, hc1, hc2, -⟩ := hl
  have HN := Lib.hid (markInts_len k n)
  rw [markInts_len] at hc1
  unfold maxLen at hc2
  rw [markInts_len]
  go_enter Tryz.func35, Tryz.ntmps35
  go_wp2
  go_loop [1, 5] (fun x j => ∃ i : Nat, i ≤ n ∧ j = .int .i64 (i : Int) ∧ x = .int .i64 ((k : Int) + (i : Int))) (fun _ j => n - (intOf j).toNat)
  case atStart => exact ⟨0, by omega, rfl, by go_num⟩
  case round =>
    obtain ⟨i, hi, rfl, rfl⟩ := hrel
    by_cases hlt : i < n
    · have hlt' : i < (markInts k n).length := by rw [HN.out]; exact hlt
      have HL' : Hid (IntsAt w B (.slice A (markInts k n).length c) (markInts k n)) := Lib.hid (by have := HL.out; rwa [HN.out] at this ⊢)
      obtain ⟨b, off, rfl, hb, c0⟩ := IntsAt.elem HL'.out i hlt'
      rw [markInts_at, show ((k + i : Nat) : Int) = (k : Int) + (i : Int) by omega] at c0
      go_wp2
      go_round
      case rel => exact ⟨i + 1, by omega, by go_num, by go_num⟩
      case measure => simp [intOf]; omega
    · obtain rfl : i = n := by omega
      go_wp2
      go_ret
      exact ⟨rfl, rfl⟩

theorem markIntS_c (B C : Nat) (v : Value) (l : List Int) (k : Nat) (w : World) (h : IntS_own B C v l w) (hn : IntS_sz l ≤ 1048576) (_ : 1 ≤ k) (hk : k ≤ 1000000000) :
    Calls Tryz.prog 34 #[v, .int .i64 (k : Int)] w fun e w' => e = .returned (.int .i64 ((k + IntS_cnt l : Nat) : Int)) ∧ IntS_own B C v (IntS_mk k l) w' ∧ Chg (Mid B C) w w' :=
  (markIntS_any B v l k w h.1 hn (by omega)).mono fun _ _ ⟨he, ho, hc⟩ => ⟨by rw [he, Int.natCast_add]; rfl, ⟨ho, h.2⟩, hc.mono fun g hg => ⟨(h.1.lt g hg).1, h.2 g hg⟩⟩

theorem heldIntS_c (v : Value) (l : List Int) (k : Nat) (w : World) (h : IntS_at w w.heap.size v (IntS_mk k l)) (hn : IntS_sz l ≤ 1048576) (_ : 1 ≤ k) (hk : k ≤ 1000000000) :
    Calls Tryz.prog 35 #[v, .int .i64 (k : Int)] w fun e w' => e = .returned (.int .i64 ((k + IntS_cnt l : Nat) : Int)) ∧ Below w.heap.size w w' :=
  (heldIntS_any v l.length k _ w h hn (by omega)).mono fun _ _ ⟨he, hw⟩ => ⟨by rw [he, Int.natCast_add]; rfl, hw ▸ Below.refl _ _⟩

end Go.Proofs.YteogknfhafdbmaaGreatDoor
