/-
  Walks and plain lemmas for the laws of this seat: what single Go functions return, for every argument.
-/
import Derived.Test.YtakflmaeclneiaaGreatInts
import Derived.Test.YtakflmaeclneiaaGreatTyAtom
import Derived.Test.YtakflmaeclneiaaGreatPlcI
import Derived.Test.YtakflmaeclneiaaGreatHeadVI
namespace Go.Proofs.YtakflmaeclneiaaGreat
open Go.RowKit

set_option maxHeartbeats 3200000 in
set_option maxRecDepth 100000 in
theorem implExPos_any (v u : Value) (l : List Rel) (d : Dep) (w : World) (hl : RelsAt w w.heap.size v l) (h : Dependency_at w w.heap.size u d) (hw : Dependency_wf d) (hs : Dependency_sz d ≤ 1048576) (hh : avalsLen d.head ≤ 6) :
    Calls Tryz.prog 45 #[v, u] w fun e w' => ∃ V, e = .returned V ∧ OwnInts w.heap.size V (exPos l d) w' ∧ Below w.heap.size w w' := by
  obtain ⟨P, c, Q, f, rfl⟩ := Dependency_form h
  obtain ⟨E, hEq⟩ : ∃ E, E = w.alloc (.cells #[.slice P d.body.length c, .slice Q d.head.length f, .bool d.egd, .int .i64 d.left, .int .i64 d.right] 51) := ⟨_, rfl⟩
  have hE : Below w.heap.size w E := by rw [hEq]; exact below_more (Below.refl _ _) _
  have HEz := Lib.hid (show E.heap.size = w.heap.size + 1 by rw [hEq]; simp)
  have K0 := Lib.hid (show E.cell? ⟨w.heap.size, 0, none⟩ = some (.slice P d.body.length c) by rw [hEq]; simp [go_sem])
  have K1 := Lib.hid (show E.cell? ⟨w.heap.size, 1, none⟩ = some (.slice Q d.head.length f) by rw [hEq]; simp [go_sem])
  have K2 := Lib.hid (show E.cell? ⟨w.heap.size, 2, none⟩ = some (.bool d.egd) by rw [hEq]; simp [go_sem])
  have K3 := Lib.hid (show E.cell? ⟨w.heap.size, 3, none⟩ = some (.int .i64 d.left) by rw [hEq]; simp [go_sem])
  have K4 := Lib.hid (show E.cell? ⟨w.heap.size, 4, none⟩ = some (.int .i64 d.right) by rw [hEq]; simp [go_sem])
  have HR := Lib.hid ((hl.below hE (Nat.le_refl _)).more hE.size)
  have hD := h.later hE
  have c1 := implExistentialVariables_c _ d E hD hw hs
  obtain ⟨V1, V2, hv, -, hF⟩ := hD
  simp only [Value.agg.injEq, Array.mk.injEq, List.cons.injEq, and_true] at hv
  obtain ⟨rfl, rfl⟩ := hv
  have HF := Lib.hid hF
  have hs2 : AtomS_sz d.head ≤ 1048576 := by unfold Dependency_sz at hs; omega
  have hhv := headVars_len d false
  have HLN := Lib.hid (exPos_len (l := l) (d := d) hh)
  have HW := Lib.hid hE
  clear hF h hl hE
  go_enter Tryz.func45, Tryz.ntmps45
  go_upto_region 2 with fail
  rw [← hEq]
  clear hEq
  have k0 := K0.out
  have k1 := K1.out
  have k2 := K2.out
  have k3 := K3.out
  have k4 := K4.out
  go_wp2_with fail
  refine c1.mono ?_
  rintro e w1 ⟨u1, rfl, ho1, hn1, hb1⟩
  replace ho1 : OwnInts E.heap.size u1 (headVars d false) w1 := ho1.1
  obtain ⟨A1, d1, rfl, -, hcm1, -⟩ := ho1.at_
  unfold maxLen at hcm1
  clear c1 k0 k1 k2 k3 k4 hn1
  have HT0 := Lib.hid (show Two E.heap.size (.slice none 0 0) (.slice A1 (headVars d false).length d1) [] (headVars d false) w1 from ⟨OwnInts.nil _ _, ho1, fun g hg => by cases hg⟩)
  have HB1 := Lib.hid hb1
  clear ho1 hb1
  go_wp2
  go_loopw [5, 11] (fun o i wr => ∃ k : Nat, k ≤ (headVars d false).length ∧ i = .int .i64 (k : Int) ∧ Hid (Two E.heap.size o (.slice A1 (headVars d false).length d1) (((headVars d false).take k).flatMap (varPos l d.head)) (headVars d false) wr) ∧ Hid (Below E.heap.size E wr)) (fun _ i _ => (headVars d false).length - (intOf i).toNat)
  case atStart => exact ⟨0, by omega, rfl, HT0, HB1⟩
  case round =>
    obtain ⟨k, hk, rfl, HT, HWr⟩ := hrel
    clear HT0 HB1
    have hz := HWr.out.size
    by_cases hlt : k < (headVars d false).length
    · have HA1 := Lib.hid HT.out.2.1.at_
      obtain ⟨b, off, rfl, hb, d0⟩ := IntsAt.elem HA1.out k hlt
      have HN := Lib.hid (flat_take (varPos l d.head) (headVars d false) k hlt)
      have hS := flat_take_len (varPos l d.head) (headVars d false) k
      have hS2 : (((headVars d false).take k).flatMap (varPos l d.head)).length ≤ 36 := Nat.le_trans hS HLN.out
      have hvl := varPos_len l d.head (headVars d false)[k]
      clear hS
      generalize (headVars d false)[k] = x at *
      generalize ((headVars d false).take k).flatMap (varPos l d.head) = S at *
      have k1 := (HWr.out.cell (p := ⟨w.heap.size, 1, none⟩) (by show w.heap.size < _; have := HEz.out; omega)).trans K1.out
      have hcall := implVarPos_any v (.slice Q d.head.length f) l d.head x wr ((HR.out.below HWr.out (Nat.le_refl _)).more hz) ((HF.out.below HWr.out (Nat.le_refl _)).more hz) hw.2.1 hs2
      go_wp2_with fail
      refine hcall.mono ?_
      rintro e w2 ⟨u2, rfl, ho2, hb2⟩
      have HT2 := Lib.hid (HT.out.below hb2 (Nat.le_refl _))
      have HO2 := Lib.hid ho2.at_
      obtain ⟨A2, d2, rfl, -, hcm2, -, hA2⟩ := ho2.at_
      unfold maxLen at hcm2
      have hz2 := hb2.size
      clear hcall d0 k1 ho2
      go_wp2_with (at_builtin; refine ints_apps (r := varPos l d.head x) HT2.out.1 rfl _ _ rfl rfl A2 _ d2 rfl rfl HO2.out hA2 (by omega) (by omega) ?_; intro v5 w5 hO5 hB5 hG5 hN5)
      go_roundw
      case rel => exact ⟨k + 1, by omega, by go_num, Lib.hid (by rw [HN.out]; exact HT2.out.first hO5 hG5 hN5), Lib.hid ((HWr.out.trans (hb2.mono hz)).trans hB5)⟩
      case measure => simp [intOf]; omega
    · obtain rfl : k = (headVars d false).length := by omega
      have HO := Lib.hid (show OwnInts E.heap.size _ (exPos l d) wr by have := HT.out.1; rwa [List.take_length] at this)
      clear HT
      go_wp2
      go_ret
      exact ⟨_, rfl, HO.out.mono (by have := HEz.out; omega), HW.out.trans (HWr.out.mono (by have := HEz.out; omega))⟩

end Go.Proofs.YtakflmaeclneiaaGreat
