/-
  Walks and plain lemmas for the laws of this seat: what single Go functions return, for every argument.
-/
import Derived.Test.YtalijnfbopcmeaaBase
import Derived.Test.YtalijnfbopcmeaaInts
import Derived.Test.YtalijnfbopcmeaaAft
import Derived.Test.YtalijnfbopcmeaaTySS
namespace Go.Proofs.Ytalijnfbopcmeaa
open Go.RowKit

set_option maxHeartbeats 800000 in
theorem sameInts_any (v u : Value) (l : List Int) (w : World) (hl : IntsAt w w.heap.size v l) (hm : IntsAt w w.heap.size u l) :
    Calls Try.prog 63 #[v, u] w fun e w' => e = .returned (.bool true) ∧ Below w.heap.size w w' := by
  have HL := Lib.hid hl
  have HM := Lib.hid hm
  obtain ⟨A, c, rfl, hlc, hcm, -⟩ := hl
  obtain ⟨A', c', rfl, hlc', hcm', -⟩ := hm
  unfold maxLen at hcm hcm'
  go_enter Try.func63, Try.ntmps63
  go_wp2
  go_loopw [5] (fun i wr => ∃ k : Nat, k ≤ l.length ∧ i = .int .i64 k ∧ Below w.heap.size w wr) (fun i _ => l.length - (intOf i).toNat)
  case atStart => exact ⟨0, by omega, rfl, Below.refl _ _⟩
  case round =>
    obtain ⟨k, hk, rfl, hW⟩ := hrel
    by_cases hlt : k < l.length
    · obtain ⟨b, off, rfl, hb, c0⟩ := IntsAt.elem HL.out k hlt
      obtain ⟨b', off', rfl, hb', d0⟩ := IntsAt.elem HM.out k hlt
      have C0 := Aft.cell hb c0
      have D0 := Aft.cell hb' d0
      clear c0 d0
      go_wp2
      refine wp_region_aft hW (by kernel_rfl) (by kernel_rfl) ?_
      repeat (go_big_quiet_step (fail))
      refine wpQuiet_nil ?_
      refine aft_end ?_
      intro w1 hh
      go_wp2
      go_roundw
      case rel => exact ⟨k + 1, by omega, by go_num, hh⟩
      case measure => simp [intOf]; omega
    · obtain rfl : k = l.length := by omega
      go_wp2
      go_ret
      exact ⟨rfl, hW⟩

set_option maxHeartbeats 1600000 in
theorem sameRows_c (v u : Value) (l : List (List Int)) (w : World) (hl : IntSS_at w w.heap.size v l) (hm : IntSS_at w w.heap.size u l) :
    Calls Try.prog 28 #[v, u] w fun e w' => e = .returned (.bool true) ∧ Below w.heap.size w w' := by
  have HL := Lib.hid hl
  have HM := Lib.hid hm
  obtain ⟨A, c, rfl, hlc, hcm⟩ := hl.form
  obtain ⟨A', c', rfl, hlc', hcm'⟩ := hm.form
  clear hl hm
  unfold maxLen at hcm hcm'
  go_enter Try.func28, Try.ntmps28
  go_wp2
  go_loopw [5] (fun i wr => ∃ k : Nat, k ≤ l.length ∧ i = .int .i64 k ∧ Below w.heap.size w wr) (fun i _ => l.length - (intOf i).toNat)
  case atStart => exact ⟨0, by omega, rfl, Below.refl _ _⟩
  case round =>
    obtain ⟨k, hk, rfl, hW⟩ := hrel
    have hz := hW.size
    by_cases hlt : k < l.length
    · obtain ⟨b, off, V, rfl, hb, c1, hV⟩ := IntSS_at.elem HL.out k hlt
      obtain ⟨b', off', V', rfl, hb', d1, hV'⟩ := IntSS_at.elem HM.out k hlt
      have C1 := Aft.cell hb c1
      have D1 := Aft.cell hb' d1
      have hcon := fun (u : Aft w.heap.size w) => sameInts_any V V' l[k] u.now ((hV.below u.is (Nat.le_refl _)).more u.is.size) ((hV'.below u.is (Nat.le_refl _)).more u.is.size)
      obtain ⟨_, _, rfl, -⟩ := id hV
      obtain ⟨_, _, rfl, -⟩ := id hV'
      clear c1 d1
      go_wp2
      refine wp_region_aft hW (by kernel_rfl) (by kernel_rfl) ?_
      repeat (go_big_quiet_step (((go_at_call 63; exact calls_aft (Nat.le_refl _) (hcon _)))))
      refine wpQuiet_nil ?_
      refine aft_end ?_
      intro w1 hh
      go_wp2
      go_roundw
      case rel => exact ⟨k + 1, by omega, by go_num, hh⟩
      case measure => simp [intOf]; omega
    · obtain rfl : k = l.length := by omega
      go_wp2
      go_ret
      exact ⟨rfl, hW⟩

end Go.Proofs.Ytalijnfbopcmeaa
