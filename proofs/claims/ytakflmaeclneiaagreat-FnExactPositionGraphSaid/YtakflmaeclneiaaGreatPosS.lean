/-
  Walks and plain lemmas for the laws of this seat: what single Go functions return, for every argument.
-/
import Derived.Test.YtakflmaeclneiaaGreatInts
import Derived.Test.YtakflmaeclneiaaGreatTyAtom
import Derived.Test.YtakflmaeclneiaaGreatRels
import Derived.Test.YtakflmaeclneiaaGreatPos
import Derived.Test.YtakflmaeclneiaaGreatGraph
import Derived.Test.YtakflmaeclneiaaGreatFactV
namespace Go.Proofs.YtakflmaeclneiaaGreat
open Go.RowKit

set_option maxHeartbeats 1600000 in
set_option maxRecDepth 100000 in
theorem specPositionIndex_any (v : Value) (l : List Rel) (r i : Int) (w : World) (hl : RelsAt w w.heap.size v l) (hr0 : -9223372036854775808 ≤ r ∧ r ≤ 9223372036854775807) (hi0 : -9223372036854775808 ≤ i ∧ i ≤ 9223372036854775807) :
    Calls Tryz.prog 39 #[v, .int .i64 r, .int .i64 i] w fun e w' => e = .returned (.int .i64 (posIx l r i)) ∧ Below w.heap.size w w' := by
  have HL := Lib.hid hl
  obtain ⟨A, c, rfl, hlc, hcm, -⟩ := hl
  unfold maxLen at hcm
  cases hv : validRels l with
  | false =>
    have HF := Lib.hid (posIx_rels (r := r) (i := i) hv)
    have hcon := specAreValid_at2 l false hv (.slice A l.length c) w HL.out
    clear hv
    go_enter Tryz.func39, Tryz.ntmps39
    go_wp2_with (go_at_call 36; refine hcon.mono ?_; rintro e w1 ⟨rfl, hb1⟩)
    go_ret
    exact ⟨ret_int HF.out.symm, hb1⟩
  | true =>
    have HR := Lib.hid hv
    have hcon := specAreValid_at2 l true hv (.slice A l.length c) w HL.out
    have hlen := validRels_len hv
    clear hv
    by_cases hr : 0 ≤ r ∧ r < l.length
    · obtain ⟨k, rfl⟩ : ∃ k : Nat, r = (k : Int) := ⟨r.toNat, by omega⟩
      have hk : k < l.length := by omega
      have hin1 := fun w => l1In_at (k : Int) 0 ((l.length : Int) - 1) true (by unfold inB; exact decide_eq_true (by omega)) w
      obtain ⟨b, off, rfl, hb, -, c1, -⟩ := RelsAt.elem HL.out k hk
      have ha : l[k].arity = arityAt l (k : Int) := by rw [arityAt_in (by simpa using hk)]; rfl
      have hab := arityAt_bd HR.out hr
      rw [ha] at c1
      have C1 := Lib.hid c1
      clear c1 ha
      by_cases hi : 0 ≤ i ∧ i < arityAt l (k : Int)
      · have hin2 := fun w => l1In_at i 0 (arityAt l (k : Int) - 1) true (by unfold inB; exact decide_eq_true (by omega)) w
        have HF := Lib.hid (posIx_yes (l := l) (r := k) (i := i) ⟨HR.out, hr, hi⟩)
        generalize arityAt l (k : Int) = q at *
        go_enter Tryz.func39, Tryz.ntmps39
        go_wp2_with fail
        refine hcon.mono ?_
        rintro e w1 ⟨rfl, hb1⟩
        have f2 := (hb1.cell (p := ⟨b, off + k * 3 + 1, none⟩) hb).trans C1.out
        go_wp2_with fail
        refine (hin1 w1).mono ?_
        rintro e w2 ⟨rfl, rfl⟩
        go_wp2_with fail
        refine (hin2 w1).mono ?_
        rintro e w3 ⟨rfl, rfl⟩
        clear f2 hin1 hin2 hcon
        go_wp2
        go_loop [7, 8] (fun n j => ∃ m : Nat, m ≤ k ∧ j = .int .i64 (m : Int) ∧ n = .int .i64 (arSum (l.take m))) (fun _ j => k - (intOf j).toNat)
        case atStart => exact ⟨0, by omega, rfl, by simp [arSum]⟩
        case round =>
          obtain ⟨m, hm, rfl, rfl⟩ := hrel
          by_cases hlt : m < k
          · obtain ⟨b', off', hA', hb', -, c1', -⟩ := RelsAt.elem HL.out m (by omega)
            obtain ⟨rfl, rfl⟩ : b = b' ∧ off = off' := by simpa using hA'
            have f3 := (hb1.cell (p := ⟨b, off + m * 3 + 1, none⟩) hb).trans c1'
            have HT := Lib.hid (arSum_take l m (by omega))
            have hbd := arSum_small HR.out m
            have hbe := validRels_ar HR.out l[m] (List.getElem_mem (by omega))
            clear c1' hA'
            generalize arSum (l.take m) = S at *
            generalize l[m].arity = a at *
            go_wp2
            go_round
            case rel => exact ⟨m + 1, by omega, by go_num, by rw [HT.out]⟩
            case measure => simp [intOf]; omega
          · obtain rfl : m = k := by omega
            have hbd := arSum_small HR.out m
            have HF2 := Lib.hid (show posIx l (m : Int) i = arSum (l.take m) + i by rw [HF.out]; simp)
            generalize arSum (l.take m) = S at *
            go_wp2
            go_ret
            exact ⟨ret_int HF2.out.symm, hb1⟩
      · have hin2 := fun w => l1In_at i 0 (arityAt l (k : Int) - 1) false (by unfold inB; exact decide_eq_false (by omega)) w
        have HF := Lib.hid (posIx_col (l := l) (r := k) (i := i) hi)
        generalize arityAt l (k : Int) = q at *
        clear hi
        go_enter Tryz.func39, Tryz.ntmps39
        go_wp2_with fail
        refine hcon.mono ?_
        rintro e w1 ⟨rfl, hb1⟩
        have f2 := (hb1.cell (p := ⟨b, off + k * 3 + 1, none⟩) hb).trans C1.out
        go_wp2_with fail
        refine (hin1 w1).mono ?_
        rintro e w2 ⟨rfl, rfl⟩
        go_wp2_with fail
        refine (hin2 w1).mono ?_
        rintro e w3 ⟨rfl, rfl⟩
        go_wp2
        go_ret
        exact ⟨ret_int HF.out.symm, hb1⟩
    · have HF := Lib.hid (posIx_rel (l := l) (r := r) (i := i) hr)
      have hin1 := fun w => l1In_at r 0 ((l.length : Int) - 1) false (by unfold inB; exact decide_eq_false (by omega)) w
      clear hr
      go_enter Tryz.func39, Tryz.ntmps39
      go_wp2_with fail
      refine hcon.mono ?_
      rintro e w1 ⟨rfl, hb1⟩
      go_wp2_with fail
      refine (hin1 w1).mono ?_
      rintro e w2 ⟨rfl, rfl⟩
      go_wp2
      go_ret
      exact ⟨ret_int HF.out.symm, hb1⟩
theorem specPositionIndex_at (l : List Rel) (r i q : Int) (hq : posIx l r i = q) (v : Value) (w : World) (hl : RelsAt w w.heap.size v l) (hr0 : -9223372036854775808 ≤ r ∧ r ≤ 9223372036854775807) (hi0 : -9223372036854775808 ≤ i ∧ i ≤ 9223372036854775807) :
    Calls Tryz.prog 39 #[v, .int .i64 r, .int .i64 i] w fun e w' => e = .returned (.int .i64 q) ∧ Below w.heap.size w w' := by
  subst hq; exact specPositionIndex_any v l r i w hl hr0 hi0
theorem specPositionIndex_c (v : Value) (l : List Rel) (r i : Int) (w : World) (hl : RelationS_at w w.heap.size v l) (_ : RelationS_wf l) (_ : RelationS_sz l ≤ 1048576) (hr0 : -9223372036854775808 ≤ r ∧ r ≤ 9223372036854775807) (hi0 : -9223372036854775808 ≤ i ∧ i ≤ 9223372036854775807) :
    Calls Tryz.prog 39 #[v, .int .i64 r, .int .i64 i] w fun e w' => e = .returned (.int .i64 (posIx l r i)) ∧ Below w.heap.size w w' := specPositionIndex_any v l r i w hl hr0 hi0

set_option maxHeartbeats 3200000 in
set_option maxRecDepth 100000 in
theorem specPlaces_any (v u : Value) (l : List Rel) (ts : List Atm) (x : Int) (w : World) (hl : RelsAt w w.heap.size v l) (h : AtomS_at w w.heap.size u ts) (hw : AtomS_wf ts) (hs : AtomS_sz ts ≤ 1048576) :
    Calls Tryz.prog 22 #[v, u, .int .i64 x] w fun e w' => ∃ V, e = .returned V ∧ OwnInts w.heap.size V (varPos l ts x) w' ∧ Below w.heap.size w w' := by
  obtain ⟨P, c, rfl, hc1, hc2⟩ := h.form
  unfold maxLen at hc2
  have HL := Lib.hid h
  have HR := Lib.hid hl
  clear h hl
  go_enter Tryz.func22, Tryz.ntmps22
  go_wp2
  go_loopw [7, 8, 9] (fun o i _ wr => ∃ k : Nat, k ≤ ts.length ∧ i = .int .i64 (k : Int) ∧ Hid (OwnInts w.heap.size o (varPos l (ts.take k) x) wr) ∧ Hid (Below w.heap.size w wr)) (fun _ i _ _ => ts.length - (intOf i).toNat)
  case atStart => exact ⟨0, by omega, rfl, Lib.hid (by simpa [varPos] using OwnInts.empty w w.heap.size (Nat.le_refl _)), Lib.hid ((Below.refl _ _).alloc (Nat.le_refl _) _)⟩
  case round =>
    obtain ⟨k, hk, rfl, HO, HW⟩ := hrel
    have hz := HW.out.size
    by_cases hlt : k < ts.length
    · obtain ⟨b, off, V, rfl, hb, c0, c1, hV⟩ := AtomS_at.elem HL.out k hlt
      obtain ⟨P', c', rfl, hp1, hp2, _⟩ := id hV
      unfold maxLen at hp2
      have HV := Lib.hid (show IntsAt w w.heap.size (.slice P' ts[k].vals.length c') ts[k].vals from hV)
      have K0 := Lib.hid c0
      have K1 := Lib.hid c1
      have HN := Lib.hid (varPos_take l ts x k hlt)
      have hwr := (hw k hlt).1
      have hl1 := varPos_len l (ts.take k) x
      have hl2 := avalsLen_take ts k hlt
      have hl3 := avalsLen_le ts (k + 1)
      have hlb : (varPos l (ts.take k) x).length + ts[k].vals.length ≤ 1048576 := by unfold AtomS_sz at hs; omega
      clear hV c0 c1 hl1 hl2 hl3
      generalize ts[k] = a at *
      generalize varPos l (ts.take k) x = S at *
      go_wp2
      go_loopw [7, 9] (fun o i wq => ∃ m : Nat, m ≤ a.vals.length ∧ i = .int .i64 (m : Int) ∧ Hid (OwnInts w.heap.size o (S ++ atPosTo l a x m) wq) ∧ Hid (Below w.heap.size w wq)) (fun _ i _ => a.vals.length - (intOf i).toNat)
      case atStart => exact ⟨0, by omega, rfl, Lib.hid (by rw [atPosTo_zero, List.append_nil]; exact HO.out), HW⟩
      case round =>
        obtain ⟨m, hm, rfl, HO2, HW2⟩ := hrel
        have hz2 := HW2.out.size
        have c1 := (HW2.out.cell (p := ⟨b, off + k * 2 + 1, none⟩) hb).trans K1.out
        have c0 := (HW2.out.cell (p := ⟨b, off + k * 2, none⟩) hb).trans K0.out
        by_cases hlm : m < a.vals.length
        · obtain ⟨b', off', rfl, hb', d0⟩ := IntsAt.elem HV.out m hlm
          replace d0 := (HW2.out.cell (p := ⟨b', off' + m, none⟩) hb').trans d0
          have hlen := atPosTo_len l a x m
          by_cases hp : a.vals[m] = x
          · have HA := Lib.hid (atPosTo_yes l a x m hlm hp)
            have hq : (a.vals[m] == x) = true := by rw [hp]; exact beq_self_eq_true x
            have hpi := specPositionIndex_any v l a.rel (m : Int) wr ((HR.out.below HW2.out (Nat.le_refl _)).more hz2) hwr (by omega)
            have hsl : (S ++ atPosTo l a x m).length < 1048577 := by rw [List.length_append]; omega
            clear hp
            generalize posIx l a.rel (m : Int) = z at *
            generalize a.vals[m] = y at *
            generalize atPosTo l a x m = T at *
            go_wp2_with fail
            refine hpi.mono ?_
            rintro e w1 ⟨rfl, hb1⟩
            have HO3 := Lib.hid (HO2.out.below hb1 (Nat.le_refl _))
            have hz3 := hb1.size
            clear c0 c1 d0 hpi
            go_wp2_with (at_builtin; refine ints_app1 HO3.out rfl _ _ rfl rfl z _ _ rfl rfl hsl (by omega) ?_; intro v5 w5 hO5 hB5 hG5)
            go_roundw
            case rel => exact ⟨m + 1, by omega, by go_num, Lib.hid (by rw [HA.out, ← List.append_assoc]; exact hO5), Lib.hid ((HW2.out.trans (hb1.mono hz2)).trans hB5)⟩
            case measure => simp [intOf]; omega
          · have HA := Lib.hid (atPosTo_no l a x m hlm hp)
            have hq : (a.vals[m] == x) = false := beq_eq_false_iff_ne.2 hp
            clear hp
            generalize a.vals[m] = y at *
            go_wp2
            go_roundw
            case rel => exact ⟨m + 1, by omega, by go_num, Lib.hid (by rw [HA.out]; exact HO2.out), HW2⟩
            case measure => simp [intOf]; omega
        · obtain rfl : m = a.vals.length := by omega
          go_wp2
          go_roundw
          case rel => exact ⟨k + 1, by omega, by go_num, Lib.hid (by rw [HN.out]; exact HO2.out), HW2⟩
          case measure => simp [intOf]; omega
    · obtain rfl : k = ts.length := by omega
      have he : varPos l (ts.take ts.length) x = varPos l ts x := by rw [List.take_of_length_le (Nat.le_refl _)]
      have HF := Lib.hid (show OwnInts w.heap.size _ (varPos l ts x) wr by rw [← he]; exact HO.out)
      clear he HO
      go_wp2
      go_ret
      exact ⟨_, rfl, HF.out, HW.out⟩

end Go.Proofs.YtakflmaeclneiaaGreat
