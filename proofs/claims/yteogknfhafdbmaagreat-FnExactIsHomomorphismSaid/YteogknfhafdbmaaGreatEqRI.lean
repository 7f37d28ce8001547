/-
  Walks and plain lemmas for the laws of this seat: what single Go functions return, for every argument.
-/
import Derived.Test.YteogknfhafdbmaaGreatShelf
import Derived.Test.YteogknfhafdbmaaGreatMem
import Derived.Test.YteogknfhafdbmaaGreatInts
import Derived.Test.YteogknfhafdbmaaGreatRels
import Derived.Test.YteogknfhafdbmaaGreatTakeE
import Derived.Test.YteogknfhafdbmaaGreatAft
namespace Go.Proofs.YteogknfhafdbmaaGreat
open Go.RowKit

set_option maxHeartbeats 1600000 in
set_option maxRecDepth 100000 in
theorem implEqualRels_at (l m : List Rel) (q : Bool) (hq : decide (l = m) = q) (v u : Value) (w : World) (hl : RelsAt w w.heap.size v l) (hm : RelsAt w w.heap.size u m) :
    Calls Tryz.prog 46 #[v, u] w fun e w' => e = .returned (.bool q) ∧ Below w.heap.size w w' := by
  subst hq
  have HL := Lib.hid hl
  have HM := Lib.hid hm
  obtain ⟨A, c, rfl, hlc, hcm, -⟩ := hl
  obtain ⟨A', c', rfl, hlc', hcm', -⟩ := hm
  unfold maxLen at hcm hcm'
  by_cases hn : l.length = m.length
  · have hnb : ((l.length : Int) != (m.length : Int)) = false := by rw [hn]; simp
    have HN := Lib.hid hn
    clear hn
    go_enter Tryz.func46, Tryz.ntmps46
    go_wp2
    go_loopw [13] (fun i wr => ∃ k : Nat, k ≤ l.length ∧ i = .int .i64 k ∧ Hid (l.take k = m.take k) ∧ Below w.heap.size w wr) (fun i _ => l.length - (intOf i).toNat)
    case atStart => exact ⟨0, by omega, rfl, Lib.hid (by simp), Below.refl _ _⟩
    case round =>
      obtain ⟨k, hk, rfl, HT, hW⟩ := hrel
      have hz := hW.size
      by_cases hlt : k < l.length
      · have hlt' : k < m.length := by have := HN.out; omega
        obtain ⟨b, off, rfl, hb, c0, c1, c2⟩ := RelsAt.elem HL.out k hlt
        obtain ⟨b', off', rfl, hb', d0, d1, d2⟩ := RelsAt.elem HM.out k hlt'
        have HE := Lib.hid (take_eq_next l m k hlt hlt')
        have HF := Lib.hid (fun h => take_eq_not l m k hlt hlt' h)
        generalize l[k] = r at *
        generalize m[k] = r' at *
        have C0 := Aft.cell hb c0
        have C1 := Aft.cell hb c1
        have C2 := Aft.cell hb c2
        have D0 := Aft.cell hb' d0
        have D1 := Aft.cell hb' d1
        have D2 := Aft.cell hb' d2
        clear c0 c1 c2 d0 d1 d2
        cases hd : decide (r = r') with
        | true =>
          have HE' := Lib.hid (HE.out (of_decide_eq_true hd) HT.out)
          go_wp2
          refine wp_region_aft hW (by kernel_rfl) (by kernel_rfl) ?_
          repeat (go_big_quiet_step (fail))
          go_big_quiet_want
          refine quiet_neq_rel r r' _ _ _ rfl rfl rfl true hd ?_
          go_big_quiet_on
          refine wpQuiet_nil ?_
          refine aft_end ?_
          intro w1 hh
          go_wp2
          go_roundw
          case rel => exact ⟨k + 1, by omega, by go_num, HE', hh⟩
          case measure => simp [intOf]; omega
        | false =>
          have HE' := Lib.hid (decide_eq_false (HF.out (of_decide_eq_false hd)))
          go_wp2
          refine wp_region_aft hW (by kernel_rfl) (by kernel_rfl) ?_
          repeat (go_big_quiet_step (fail))
          go_big_quiet_want
          refine quiet_neq_rel r r' _ _ _ rfl rfl rfl false hd ?_
          go_big_quiet_on
          refine wpQuiet_nil ?_
          refine aft_end ?_
          intro w1 hh
          go_wp2
          go_ret
          exact ⟨by rw [HE'.out]; rfl, hh⟩
      · obtain rfl : k = l.length := by omega
        have HE' := Lib.hid (decide_eq_true (show l = m by have := HT.out; rwa [List.take_of_length_le (Nat.le_refl _), List.take_of_length_le (by rw [HN.out]; exact Nat.le_refl _)] at this))
        go_wp2
        go_ret
        exact ⟨by rw [HE'.out]; rfl, hW⟩
  · have hnb : ((l.length : Int) != (m.length : Int)) = true := by rw [bne_iff_ne]; omega
    have HE' := Lib.hid (decide_eq_false (show ¬ l = m by rintro rfl; exact hn rfl))
    clear hn
    go_enter Tryz.func46, Tryz.ntmps46
    go_wp2
    go_ret
    exact ⟨by rw [HE'.out]; rfl, Below.refl _ _⟩

theorem implEqInts_any (l m : List Int) (v u : Value) (w : World) (hl : IntsAt w w.heap.size v l) (hm : IntsAt w w.heap.size u m) :
    Calls Tryz.prog 26 #[v, u] w fun e w' => e = .returned (.bool (decide (l = m))) ∧ Below w.heap.size w w' := by
  obtain ⟨A, c, rfl, hlc, hcm, hc, -⟩ := hl
  obtain ⟨A', c', rfl, hlc', hcm', hc', -⟩ := hm
  unfold maxLen at hcm hcm'
  by_cases hlen : l.length = m.length
  · rcases Nat.eq_zero_or_pos l.length with h0 | h0
    · have e : l = [] := List.eq_nil_of_length_eq_zero h0
      have e' : m = [] := List.eq_nil_of_length_eq_zero (by omega)
      subst e e'
      refine (Tryz.slices_Equal_int_empty A A' c 0 c' w (by omega)).mono ?_
      rintro e w' ⟨rfl, hw⟩
      exact ⟨rfl, by rw [hw]; exact Below.refl _ _⟩
    · obtain ⟨b, off, rfl, hb, hc⟩ := hc h0
      obtain ⟨b', off', rfl, hb', hc'⟩ := hc' (by omega)
      have k1 : ∀ j, j < l.length → w.cell? ⟨b, off + j, none⟩ = some (.int .i64 (l.getD j 0)) := fun j hj => hc j _ (by rw [flat_int]; simp [hj])
      have k2 : ∀ j, j < m.length → w.cell? ⟨b', off' + j, none⟩ = some (.int .i64 (m.getD j 0)) := fun j hj => hc' j _ (by rw [flat_int]; simp [hj])
      have h := Tryz.slices_Equal_int b off l.length c b' off' m.length c' l m w (Nat.le_refl _) (Nat.le_refl _) (by omega) (by omega) k1 k2
      rw [List.take_of_length_le (Nat.le_refl _), List.take_of_length_le (Nat.le_refl _)] at h
      refine h.mono ?_
      rintro e w' ⟨rfl, q, rfl⟩
      refine ⟨?_, below_drewN w q⟩
      by_cases e : l = m
      · subst e; simp
      · rw [decide_eq_false e, beq_eq_false_iff_ne.2 e]
  · refine (Tryz.slices_Equal_int_lens A A' l.length c m.length c' w hlen).mono ?_
    rintro e w' ⟨rfl, hw⟩
    exact ⟨by rw [decide_eq_false (fun e => hlen (by rw [e]))], by rw [hw]; exact Below.refl _ _⟩

theorem implSearchInts_any (v : Value) (l : List Int) (k : Int) (w : World) (hl : IntsAt w w.heap.size v l) (ha : l.Pairwise (· ≤ ·)) (hn : l.length ≤ 1048576) :
    Calls Tryz.prog 95 #[v, .int .i64 k] w fun e w' => e = .returned (.tuple #[.int .i64 (l.countP (· < k) : Nat), .bool (l.contains k)]) ∧ Below w.heap.size w w' := by
  obtain ⟨A, c, rfl, hlc, hcm, hc, -⟩ := hl
  rcases Nat.eq_zero_or_pos l.length with h0 | h0
  · have e : l = [] := List.eq_nil_of_length_eq_zero h0
    subst e
    refine (Tryz.slices_BinarySearch_int_empty A c k w).mono ?_
    rintro e w' ⟨rfl, hw⟩
    exact ⟨rfl, by rw [hw]; exact Below.refl _ _⟩
  · obtain ⟨b, off, rfl, hb, hc⟩ := hc h0
    have hcc : ∀ j, j < l.length → w.cell? ⟨b, off + j, none⟩ = some (.int .i64 (l.getD j 0)) := fun j hj => by
      refine hc j _ ?_
      rw [flat_int]; simp [hj]
    have h := Tryz.slices_BinarySearch_int b off l.length c l k w (Nat.le_refl _) (by omega) hcc (by rw [List.take_of_length_le (Nat.le_refl _)]; exact ha)
    rw [List.take_of_length_le (Nat.le_refl _)] at h
    refine h.mono ?_
    rintro e w' ⟨rfl, q, rfl⟩
    exact ⟨rfl, below_drewN w q⟩

end Go.Proofs.YteogknfhafdbmaaGreat
