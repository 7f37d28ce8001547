/-
  Walks and plain lemmas for the laws of this seat: what single Go functions return, for every argument.
-/
import Derived.Test.YtmecdjincmkofaaGreatDoorShelf
import Derived.Shelf.Spec.SlicesGrow
import Derived.LoopN
import Derived.Test.YtmecdjincmkofaaGreatDoorBase
import Derived.Test.YtmecdjincmkofaaGreatDoorInts
import Derived.Test.YtmecdjincmkofaaGreatDoorTyInst
import Derived.Test.YtmecdjincmkofaaGreatDoorMInst
namespace Go.Proofs.YtmecdjincmkofaaGreatDoor
open Go.RowKit

theorem zeroCells_size (z : Array Value) (n : Nat) : (Builtin.zeroCells z n).size = n * z.size := by simp [Builtin.zeroCells]
theorem implGrowNil_any (n : Nat) (w : World) (hn : n ≤ 1048576) :
    Calls Tryz.prog 207 #[.slice none 0 0, .int .i64 (n : Int)] w fun e w' => ∃ u, e = .returned u ∧ OwnInts w.heap.size u [] w' ∧ Below w.heap.size w w' := by
  rcases Nat.eq_zero_or_pos n with h0 | h0
  · subst h0
    refine (Any8.slices_Grow_room Tryz.growI none 0 0 0 w (Nat.le_refl _) (by omega) (by omega) (Nat.le_refl _)).mono ?_
    rintro e w' ⟨rfl, rfl⟩
    exact ⟨_, rfl, OwnInts.nil _ _, Below.refl _ _⟩
  · obtain ⟨i0, hi, hz0, hz1, hz2⟩ := info_parts infoInt
    refine (Any8.slices_Grow_grow Tryz.growI i0 _ hi hz0 (by omega) none 0 0 n [] w (Nat.le_refl _) (by omega) (by rw [hz2]; omega) (by omega) (by simp) (fun _ => rfl) (fun a h => by cases h)).mono ?_
    rintro e w' ⟨rfl, rfl⟩
    refine ⟨_, rfl, ?_, ((Below.refl w.heap.size w).drew).alloc (Nat.le_refl _) _⟩
    have hge := grownCap_ge w (0 + n) 0 3
    have hle := grownCap_le_maxLen w (0 + n) 0 3 (by unfold maxLen; omega)
    have e1 : (Value.int .i64 0).cells.size = 1 := rfl
    have hs : ((([] : List Value).toArray ++ Builtin.zeroCells (Value.int .i64 0).cells (0 + n - 0) ++ Builtin.zeroCells (Value.int .i64 0).cells (grownCap w (0 + n) 0 3 - (0 + n))) : Array Value).size = grownCap w (0 + n) 0 3 * 1 := by
      rw [Array.size_append, Array.size_append, zeroCells_size, zeroCells_size, e1]
      simp only [List.size_toArray, List.length_nil, Nat.mul_one, Nat.sub_zero]; omega
    have h := World.ownsRow_lit (e := 3) (base := w.heap.size) w.drew _ (grownCap w (0 + n) 0 3) (Nat.le_refl _) hle hs
    have h2 := ownsRow_cut h (Nat.zero_le _)
    rw [Nat.zero_mul, List.take_zero] at h2
    exact h2
set_option maxHeartbeats 1600000 in
set_option maxRecDepth 100000 in
theorem implConcat2_any (g : Nat) (a b : List Int) (va vb : Value) (w : World) (hg : g < w.heap.size) (h0 : w.cell? ⟨g, 0, none⟩ = some va) (h1 : w.cell? ⟨g, 1, none⟩ = some vb) (ha : IntS_at w w.heap.size va a) (hb : IntS_at w w.heap.size vb b) (hla : a.length ≤ 1000) (hlb : b.length ≤ 1000) :
    Calls Tryz.prog 141 #[.slice (some ⟨g, 0, none⟩) 2 2] w fun e w' => ∃ u, e = .returned u ∧ OwnInts w.heap.size u (a ++ b) w' ∧ Below w.heap.size w w' := by
  have HA := Lib.hid ha
  have HB := Lib.hid hb
  obtain ⟨A, c, rfl, hc1, hc2, -, hA0⟩ := ha
  obtain ⟨A', c', rfl, hd1, hd2, -, hB0⟩ := hb
  have HA0 := Lib.hid hA0
  have HB0 := Lib.hid hB0
  unfold maxLen at hc2 hd2
  have H0 := Lib.hid h0
  have H1 := Lib.hid h1
  have hgr := implGrowNil_any (a.length + b.length) w (by omega)
  rw [Int.natCast_add] at hgr
  have n1 : decide ((a.length : Int) < 0) = false := decide_eq_false (by omega)
  have n2 : decide ((a.length : Int) + (b.length : Int) < 0) = false := decide_eq_false (by omega)
  clear hA0 hB0
  go_enter Tryz.func141, Tryz.ntmps141
  go_wp2
  refine wp_loop_rounds 3 ?_
  rw [rounds_succ]
  go_wp2
  rw [rounds_succ]
  go_wp2
  rw [rounds_succ]
  go_wp2_with fail
  refine hgr.mono ?_
  rintro e w1 ⟨u, rfl, hU, hb1⟩
  have k0 := (hb1.cell (p := ⟨g, 0, none⟩) hg).trans H0.out
  have k1 := (hb1.cell (p := ⟨g, 1, none⟩) hg).trans H1.out
  have HU := Lib.hid hU
  have hz1 := hb1.size
  have HA1 := Lib.hid (HA.out.later hb1)
  have HB1 := Lib.hid (HB.out.later hb1)
  clear hgr hU h0 h1 n1 n2
  go_wp2
  refine wp_loop_rounds 3 ?_
  rw [rounds_succ]
  go_wp2_with (at_builtin; refine ints_apps (r := a) HU.out rfl _ _ rfl rfl A a.length c rfl rfl HA1.out HA0.out (by simp; omega) (by omega) ?_; intro v2 w2 hO2 hB2 _ _)
  have l1 := (hB2.cell (p := ⟨g, 1, none⟩) hg).trans k1
  have hz2 := hB2.size
  have HO2 := Lib.hid hO2
  have HB2' := Lib.hid (HB.out.later (hb1.trans hB2))
  clear hO2 k0 k1
  rw [rounds_succ]
  go_wp2_with (at_builtin; refine ints_apps (r := b) HO2.out rfl _ _ rfl rfl A' b.length c' rfl rfl HB2'.out HB0.out (by simp; omega) (by omega) ?_; intro v3 w3 hO3 hB3 _ _)
  have HO3 := Lib.hid hO3
  clear hO3 l1
  rw [rounds_succ]
  go_wp2
  go_ret
  exact ⟨_, rfl, by simpa using HO3.out, (hb1.trans hB2).trans hB3⟩

end Go.Proofs.YtmecdjincmkofaaGreatDoor
