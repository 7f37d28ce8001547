/-
  Walks and plain lemmas for the laws of this seat: what single Go functions return, for every argument.
-/
import Derived.Test.YtobdijcnfmgidaaShelf
import Derived.Lib.OwnBridge
import Derived.Test.YtobdijcnfmgidaaBase
import Derived.Test.YtobdijcnfmgidaaInts
import Derived.Test.YtobdijcnfmgidaaNum
import Derived.Test.YtobdijcnfmgidaaTyInst
import Derived.Test.YtobdijcnfmgidaaMInst
import Derived.Test.YtobdijcnfmgidaaSrtI
import Derived.Test.YtobdijcnfmgidaaFactV
namespace Go.Proofs.Ytobdijcnfmgidaa
open Go.RowKit Go.Sort

set_option maxHeartbeats 3200000 in
set_option maxRecDepth 100000 in
theorem implNullsOfFact_any (r : Int) (V : Value) (vs : List Int) (w : World) (hV : IntsAt w w.heap.size V vs) (hw : IntsWf vs) (hn : vs.length ≤ 1048576) :
    Calls Try.prog 40 #[.agg #[.int .i64 r, V]] w fun e w' => ∃ u, e = .returned u ∧ OwnInts w.heap.size u (nullsOf vs) w' ∧ Below w.heap.size w w' := by
  have HV := Lib.hid hV
  obtain ⟨A', c', rfl, hlc', hcm', -⟩ := hV
  unfold maxLen at hcm'
  have hE : Below w.heap.size w (w.alloc (.cells #[.int .i64 r, .slice A' vs.length c'] 44)) := (Below.refl _ _).alloc (Nat.le_refl _) _
  have hcs := compact_sort vs
  have HCS := Lib.hid hcs
  clear hcs
  go_enter Try.func40, Try.ntmps40
  go_wp2
  go_loopw [3, 11] (fun o i wr => ∃ k : Nat, k ≤ vs.length ∧ i = .int .i64 k ∧ OwnInts (w.heap.size + 1) o (numsOf (vs.take k)) wr ∧ Below (w.heap.size + 1) (w.alloc (.cells #[.int .i64 r, .slice A' vs.length c'] 44)) wr) (fun _ i _ => vs.length - (intOf i).toNat)
  case atStart => exact ⟨0, by omega, rfl, by simpa [numsOf] using OwnInts.nil (w.alloc (.cells #[.int .i64 r, .slice A' vs.length c'] 44)) (w.heap.size + 1), Below.refl _ _⟩
  case round =>
    obtain ⟨k, hk, rfl, hO, hW⟩ := hrel
    have hz := hW.size
    simp at hz
    have hWw : Below w.heap.size w wr := hE.trans (hW.mono (by omega))
    have hl := numsOf_len vs k
    by_cases hlt : k < vs.length
    · obtain ⟨b', off', rfl, hb', d0⟩ := IntsAt.elem HV.out k hlt
      replace d0 := (hWw.cell (p := ⟨b', off' + k, none⟩) hb').trans d0
      have HN := Lib.hid (numsOf_take vs k hlt)
      have hnn := implNullNumber_any vs[k] wr (hw k hlt).1 (hw k hlt).2
      cases hb : (nullNum vs[k]).2 with
      | true =>
        have HA := Lib.hid (HN.out.trans (if_pos hb))
        rw [hb] at hnn
        clear hb
        go_wp2_with (first | (go_at_call 83; refine hnn.mono ?_; rintro e w2 ⟨rfl, rfl⟩) | (at_builtin; refine ints_app1 hO rfl _ _ rfl rfl _ _ _ rfl rfl (by omega) (by omega) ?_; intro v5 w5 hO5 hB5 hG5))
        go_roundw
        case rel => exact ⟨k + 1, by omega, by go_num, by rw [HA.out]; exact hO5, hW.trans hB5⟩
        case measure => simp [intOf]; omega
      | false =>
        have HA := Lib.hid (HN.out.trans (if_neg (by rw [hb]; simp)))
        rw [hb] at hnn
        clear hb
        go_wp2_with (first | (go_at_call 83; refine hnn.mono ?_; rintro e w2 ⟨rfl, rfl⟩))
        go_roundw
        case rel => exact ⟨k + 1, by omega, by go_num, by rw [HA.out]; exact hO, hW⟩
        case measure => simp [intOf]; omega
    · obtain rfl : k = vs.length := by omega
      rw [List.take_of_length_le (Nat.le_refl _)] at hO hl
      have hs := sortInts_any _ _ _ wr hO hz (by omega)
      clear hO
      go_wp2_with fail
      refine hs.mono ?_
      rintro e w2 ⟨rfl, hO2, hb2⟩
      have hc := compactInts_any _ _ _ w2 hO2 (by rw [List.length_mergeSort]; omega)
      rw [HCS.out] at hc
      clear hO2 hs
      go_wp2_with fail
      refine hc.mono ?_
      rintro e w3 ⟨u, rfl, hO3, hb3⟩
      go_wp2
      go_ret
      exact ⟨_, rfl, hO3.mono (by omega), hE.trans (((hW.trans hb2).trans hb3).mono (by omega))⟩
theorem implNullsOfFact_c (v : Value) (x : Fct) (w : World) (h : Fact_at w w.heap.size v x) (hw : Fact_wf x) (hn : Fact_sz x ≤ 1048576) :
    Calls Try.prog 40 #[v] w fun e w' => ∃ u, e = .returned u ∧ IntS_own w.heap.size w'.heap.size u (NullsOfFact_r0 x) w' ∧ IntS_sz (NullsOfFact_r0 x) ≤ 1048576 ∧ Below w.heap.size w w' := by
  obtain ⟨V, rfl, h⟩ := h
  have hl := nullsOf_len x.vals
  refine (implNullsOfFact_any x.rel V x.vals w h hw.2 hn).mono fun _ w' ⟨u, he, ho, hb⟩ => ⟨u, he, IntsO.of ho, by unfold IntS_sz NullsOfFact_r0; omega, hb⟩

end Go.Proofs.Ytobdijcnfmgidaa
