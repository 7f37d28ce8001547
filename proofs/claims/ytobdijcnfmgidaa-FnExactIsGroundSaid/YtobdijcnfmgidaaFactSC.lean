/-
  Walks and plain lemmas for the laws of this seat: what single Go functions return, for every argument.
-/
import Derived.Test.YtobdijcnfmgidaaTyInst
import Derived.Test.YtobdijcnfmgidaaFactC
namespace Go.Proofs.Ytobdijcnfmgidaa
open Go.RowKit

set_option maxHeartbeats 1600000 in
theorem eqFactS_c (v u : Value) (l : List Fct) (w : World) (hl : FactS_at w w.heap.size v l) (hm : FactS_at w w.heap.size u l) :
    Calls Try.prog 70 #[v, u] w fun e w' => e = .returned (.bool true) ∧ Below w.heap.size w w' := by
  have HL := Lib.hid hl
  have HM := Lib.hid hm
  obtain ⟨A, c, rfl, hlc, hcm⟩ := hl.form
  obtain ⟨A', c', rfl, hlc', hcm'⟩ := hm.form
  clear hl hm
  unfold maxLen at hcm hcm'
  go_enter Try.func70, Try.ntmps70
  go_wp2
  go_loopw [5] (fun i wr => ∃ k : Nat, k ≤ l.length ∧ i = .int .i64 k ∧ Below w.heap.size w wr) (fun i _ => l.length - (intOf i).toNat)
  case atStart => exact ⟨0, by omega, rfl, Below.refl _ _⟩
  case round =>
    obtain ⟨k, hk, rfl, hW⟩ := hrel
    have hz := hW.size
    by_cases hlt : k < l.length
    · obtain ⟨b, off, V, rfl, hb, c0, c1, hV⟩ := FactS_at.elem HL.out k hlt
      obtain ⟨b', off', V', rfl, hb', d0, d1, hV'⟩ := FactS_at.elem HM.out k hlt
      have C0 := Aft.cell hb c0
      have C1 := Aft.cell hb c1
      have D0 := Aft.cell hb' d0
      have D1 := Aft.cell hb' d1
      have hcon := fun (u : Aft w.heap.size w) => eqFact_c (.agg #[.int .i64 l[k].rel, V]) (.agg #[.int .i64 l[k].rel, V']) l[k] u.now ⟨V, rfl, (hV.below u.is (Nat.le_refl _)).more u.is.size⟩ ⟨V', rfl, (hV'.below u.is (Nat.le_refl _)).more u.is.size⟩
      clear c0 c1 d0 d1
      go_wp2
      refine wp_region_aft hW (by kernel_rfl) (by kernel_rfl) ?_
      repeat (go_big_quiet_step (((go_at_call 110; exact calls_aft (Nat.le_refl _) (hcon _)))))
      refine wpQuiet_nil ?_
      refine aft_end ?_
      intro w1 hh
      go_wp2
      go_roundw
      case rel => exact ⟨k + 1, by omega, by go_num, hh⟩
      case measure => simp [intOf]; omega
    · obtain rfl : k = l.length := by omega
      go_wp2
      go_ret
      exact ⟨rfl, hW⟩

set_option maxHeartbeats 800000 in
theorem szFactS_c (v : Value) (l : List Fct) (left : Int) (w : World) (hl : FactS_at w w.heap.size v l) (hw : FactS_wf l) (h0 : 0 ≤ left) (h1 : left ≤ 1048576) :
    Calls Try.prog 66 #[v, .int .i64 left] w fun e w' => e = .returned (.int .i64 (szLeft left (FactS_sz l : Nat))) ∧ Below w.heap.size w w' := by
  have HL := Lib.hid hl
  obtain ⟨A, c, rfl, hlc, hcm⟩ := hl.form
  clear hl
  unfold maxLen at hcm
  have hsz : ((FactS_sz l : Nat) : Int) = (l.length : Int) + (valsLen l : Nat) := by unfold FactS_sz; omega
  rw [hsz]
  clear hsz
  by_cases hn : (l.length : Int) ≤ left
  · go_enter Try.func66, Try.ntmps66
    go_wp2
    go_loopw [1, 5] (fun lf i wr => ∃ k : Nat, k ≤ l.length ∧ i = .int .i64 k ∧ lf = .int .i64 (left - l.length - (valsLen (l.take k) : Nat)) ∧ (l.length : Int) + (valsLen (l.take k) : Nat) ≤ left ∧ Below w.heap.size w wr) (fun _ i _ => l.length - (intOf i).toNat)
    case atStart => exact ⟨0, by omega, rfl, by simp [valsLen], by simp [valsLen]; omega, Below.refl _ _⟩
    case round =>
      obtain ⟨k, hk, rfl, rfl, hle, hW⟩ := hrel
      have hz := hW.size
      by_cases hlt : k < l.length
      · obtain ⟨b, off, V, rfl, hb, c0, c1, hV⟩ := FactS_at.elem (HL.out.below hW (Nat.le_refl _)) k hlt
        have HT := Lib.hid (valsLen_take l k hlt)
        have HLE := Lib.hid (valsLen_le l (k + 1))
        generalize valsLen (l.take k) = q at *
        have hq : 0 ≤ left - l.length - (q : Int) := by omega
        have hat : Fact_at wr wr.heap.size (.agg #[.int .i64 l[k].rel, V]) l[k] := ⟨V, rfl, hV.more hz⟩
        have hsz := szFact_c _ l[k] (left - l.length - (q : Int)) wr hat (hw k hlt) hq (by omega)
        unfold Fact_sz at hsz
        clear hat
        by_cases hfit : (l[k].vals.length : Int) ≤ left - l.length - (q : Int)
        · rw [szLeft_yes hfit] at hsz
          have e1 : left - l.length - (q : Int) - (l[k].vals.length : Nat) = left - l.length - ((q + l[k].vals.length : Nat) : Int) := by omega
          rw [e1] at hsz
          clear e1
          go_wp2_with (go_at_call 106; refine hsz.mono ?_; rintro e w1 ⟨rfl, hb1⟩)
          go_roundw
          case rel => exact ⟨k + 1, by omega, by go_num, by rw [HT.out]; go_num, by rw [HT.out]; omega, hW.trans (hb1.mono hz)⟩
          case measure => simp [intOf]; omega
        · rw [szLeft_no hfit] at hsz
          have e2 := Lib.hid (szLeft_no (left := left) (n := (l.length : Int) + (valsLen l : Nat)) (by have := HT.out; have := HLE.out; omega))
          go_wp2_with (go_at_call 106; refine hsz.mono ?_; rintro e w1 ⟨rfl, hb1⟩)
          go_ret
          exact ⟨ret_int e2.out.symm, hW.trans (hb1.mono hz)⟩
      · obtain rfl : k = l.length := by omega
        have HT := Lib.hid (congrArg valsLen (List.take_length (l := l)))
        generalize valsLen (l.take l.length) = q at *
        have e2 := Lib.hid (szLeft_yes (left := left) (n := (l.length : Int) + (valsLen l : Nat)) (by have := HT.out; omega))
        go_wp2
        go_ret
        exact ⟨ret_int (by rw [e2.out]; have := HT.out; omega), hW⟩
  · have e2 := Lib.hid (szLeft_no (left := left) (n := (l.length : Int) + (valsLen l : Nat)) (by omega))
    go_enter Try.func66, Try.ntmps66
    go_wp2
    go_ret
    exact ⟨ret_int e2.out.symm, Below.refl _ _⟩

set_option maxHeartbeats 1600000 in
theorem toFactS_c (v : Value) (l : List Fct) (w : World) (hl : FactS_at w w.heap.size v l) (hn : FactS_sz l ≤ 1048576) :
    Calls Try.prog 68 #[v] w fun e w' => ∃ u, e = .returned u ∧ FactS_own w.heap.size w'.heap.size u l w' ∧ Below w.heap.size w w' := by
  have HL := Lib.hid hl
  obtain ⟨A, c, rfl, hlc, hcm⟩ := hl.form
  clear hl
  unfold maxLen at hcm
  have hn1 : l.length ≤ 1048576 := by unfold FactS_sz at hn; omega
  have hel : ∀ k (h : k < l.length), Fact_sz l[k] ≤ 1048576 := fun k h => by
    have h1 := valsLen_take l k h
    have h2 := valsLen_le l (k + 1)
    unfold FactS_sz at hn; unfold Fact_sz; omega
  have hmk := fun w => make_facts w l.length hn1
  go_enter Try.func68, Try.ntmps68
  go_wp2
  clear hmk
  go_loopw [4] (fun i wr => ∃ k : Nat, ∃ Vs, k ≤ l.length ∧ i = .int .i64 k ∧ FactSO 44 w.heap.size wr.heap.size (.slice (some ⟨w.heap.size, 0, none⟩) l.length l.length) Vs (l.take k ++ List.replicate (l.length - k) zeroFct) wr ∧ Below w.heap.size w wr) (fun i _ => l.length - (intOf i).toNat)
  case atStart => exact ⟨0, _, by omega, rfl, (FactSO.made w l.length hn1).mono (Nat.le_refl _) (by simp), (Below.refl _ _).alloc (Nat.le_refl _) _⟩
  case round =>
    obtain ⟨k, Vs, hk, rfl, hO, hW⟩ := hrel
    have hz := hW.size
    by_cases hlt : k < l.length
    · obtain ⟨b, off, V, rfl, hb, c0, c1, hV⟩ := FactS_at.elem (HL.out.below hW (Nat.le_refl _)) k hlt
      have hcon := toFact_c _ l[k] wr ⟨V, rfl, hV.more hz⟩ (hel k hlt)
      have hlen : (l.take k ++ List.replicate (l.length - k) zeroFct).length = l.length := by simp; omega
      have hkl : k < (l.take k ++ List.replicate (l.length - k) zeroFct).length := by omega
      have hkv : k < Vs.length := by rw [hO.len]; exact hkl
      have HLen := Lib.hid hlen
      have HO := Lib.hid hO
      clear hlen hO
      go_wp2_with fail
      refine hcon.mono ?_
      rintro e w1 ⟨u, rfl, hu, hb1⟩
      have hz1 := hb1.size
      obtain ⟨U, rfl, hU⟩ := hu
      obtain ⟨P, cu, rfl, -, -, -⟩ := hU.1.at_
      have hO1 := HO.out.below hb1 (Nat.le_refl _)
      obtain ⟨d0, d1⟩ := hO1.cells HLen.out k hkl hkv
      have hfz := hO1.frozen HLen.out
      have HS := Lib.hid (FactSO.set (e := 44) (by decide) (hO1.mono (Nat.le_refl _) hz1) HLen.out k hlt l[k] _ (hU.mono hz (Nat.le_refl _)) (fun i hi _ q hq1 hq2 => by
        have h1 := (hU.1.lt q hq2).1
        have h2 := (HO.out.el i (by have := HO.out.len; omega) hi).2 q hq1
        omega))
      clear hO1
      go_wp2
      go_roundw
      case rel => exact ⟨k + 1, _, by omega, by go_num, by rw [← take_zero_fct l k hlt]; exact HS.out.mono (Nat.le_refl _) (by simp [World.setCell]), ((hW.trans (hb1.mono hz)).setCell (p := ⟨w.heap.size, k * 2, none⟩) (Nat.le_refl _) _).setCell (p := ⟨w.heap.size, k * 2 + 1, none⟩) (Nat.le_refl _) _⟩
      case measure => simp [intOf]; omega
    · obtain rfl : k = l.length := by omega
      have hO' : FactSO 44 w.heap.size wr.heap.size (.slice (some ⟨w.heap.size, 0, none⟩) l.length l.length) Vs l wr := by simpa using hO
      clear hO
      go_wp2
      go_ret
      exact ⟨_, rfl, ⟨Vs, hO'⟩, hW⟩

end Go.Proofs.Ytobdijcnfmgidaa
