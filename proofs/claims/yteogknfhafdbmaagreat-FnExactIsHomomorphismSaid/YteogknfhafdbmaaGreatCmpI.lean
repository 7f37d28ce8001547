/-
  Walks and plain lemmas for the laws of this seat: what single Go functions return, for every argument.
-/
import Derived.Test.YteogknfhafdbmaaGreatBase
import Derived.Test.YteogknfhafdbmaaGreatInts
namespace Go.Proofs.YteogknfhafdbmaaGreat
open Go.RowKit

set_option maxHeartbeats 1600000 in
theorem specInts_any (v u : Value) (a b : List Int) (w : World) (hl : IntsAt w w.heap.size v a) (hm : IntsAt w w.heap.size u b) :
    Calls Tryz.prog 18 #[v, u] w fun e w' => e = .returned (.int .i64 (cmpInts a b)) ∧ Below w.heap.size w w' := by
  have HL := Lib.hid hl
  have HM := Lib.hid hm
  obtain ⟨A, c, rfl, hlc, hcm, -⟩ := hl
  obtain ⟨A', c', rfl, hlc', hcm', -⟩ := hm
  unfold maxLen at hcm hcm'
  go_enter Tryz.func18, Tryz.ntmps18
  go_wp2
  go_loopw [5] (fun i wr => ∃ k : Nat, k ≤ a.length ∧ k ≤ b.length ∧ i = .int .i64 k ∧ Hid (CmpTo a b k) ∧ Below w.heap.size w wr) (fun i _ => a.length - (intOf i).toNat)
  case atStart => exact ⟨0, by omega, by omega, rfl, Lib.hid (CmpTo.zero a b), Below.refl _ _⟩
  case round =>
    obtain ⟨k, hk, hk', rfl, HT, hW⟩ := hrel
    by_cases hlt : k < a.length ∧ k < b.length
    · obtain ⟨hlt, hlt'⟩ := hlt
      obtain ⟨p, off, rfl, hb, c0⟩ := IntsAt.elem HL.out k hlt
      obtain ⟨p', off', rfl, hb', d0⟩ := IntsAt.elem HM.out k hlt'
      have C0 := Aft.cell hb c0
      have D0 := Aft.cell hb' d0
      clear c0 d0
      by_cases h1 : a[k] < b[k]
      · have HV := Lib.hid (HT.out.less hlt hlt' h1)
        have hd : decide (a[k] < b[k]) = true := decide_eq_true h1
        clear h1
        go_wp2
        refine wp_region_aft hW (by kernel_rfl) (by kernel_rfl) ?_
        repeat (go_big_quiet_step (fail))
        refine wpQuiet_nil ?_
        refine aft_end ?_
        intro w1 hh
        go_wp2
        go_ret
        exact ⟨ret_int HV.out.symm, hh⟩
      · have hd : decide (a[k] < b[k]) = false := decide_eq_false h1
        by_cases h2 : b[k] < a[k]
        · have HV := Lib.hid (HT.out.more hlt hlt' h2)
          have hd2 : decide (b[k] < a[k]) = true := decide_eq_true h2
          clear h1 h2
          go_wp2
          refine wp_region_aft hW (by kernel_rfl) (by kernel_rfl) ?_
          repeat (go_big_quiet_step (fail))
          refine wpQuiet_nil ?_
          refine aft_end ?_
          intro w1 hh
          go_wp2
          refine wp_region_aft hh (by kernel_rfl) (by kernel_rfl) ?_
          repeat (go_big_quiet_step (fail))
          refine wpQuiet_nil ?_
          refine aft_end ?_
          intro w2 hh2
          go_wp2
          go_ret
          exact ⟨ret_int HV.out.symm, hh2⟩
        · have HV := Lib.hid (HT.out.next hlt hlt' h1 h2)
          have hd2 : decide (b[k] < a[k]) = false := decide_eq_false h2
          clear h1 h2
          go_wp2
          refine wp_region_aft hW (by kernel_rfl) (by kernel_rfl) ?_
          repeat (go_big_quiet_step (fail))
          refine wpQuiet_nil ?_
          refine aft_end ?_
          intro w1 hh
          go_wp2
          refine wp_region_aft hh (by kernel_rfl) (by kernel_rfl) ?_
          repeat (go_big_quiet_step (fail))
          refine wpQuiet_nil ?_
          refine aft_end ?_
          intro w2 hh2
          go_wp2
          go_roundw
          case rel => exact ⟨k + 1, by omega, by omega, by go_num, HV, hh2⟩
          case measure => simp [intOf]; omega
    · have HV := Lib.hid (HT.out.done (by omega) hk hk')
      by_cases e1 : a.length < b.length
      · have HV' := Lib.hid (HV.out.trans (if_pos e1))
        by_cases hka : k < a.length
        · omega
        all_goals
          go_wp2
          go_ret
          exact ⟨ret_int HV'.out.symm, hW⟩
      · by_cases e2 : b.length < a.length
        · have HV' := Lib.hid (HV.out.trans ((if_neg e1).trans (if_pos e2)))
          have hka : k < a.length := by omega
          have hkb : ¬ k < b.length := by omega
          go_wp2
          go_ret
          exact ⟨ret_int HV'.out.symm, hW⟩
        · have HV' := Lib.hid (HV.out.trans ((if_neg e1).trans (if_neg e2)))
          have hka : ¬ k < a.length := by omega
          have hkb : ¬ k < b.length := by omega
          go_wp2
          go_ret
          exact ⟨ret_int HV'.out.symm, hW⟩

end Go.Proofs.YteogknfhafdbmaaGreat
