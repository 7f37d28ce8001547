/-
  Walks and plain lemmas for the laws of this seat: what single Go functions return, for every argument.
-/
import Derived.Test.YtalijnfbopcmeaaNum
import Derived.Test.YtalijnfbopcmeaaUfVI
import Derived.Test.YtalijnfbopcmeaaTySS
import Derived.Test.YtalijnfbopcmeaaUfCI
namespace Go.Proofs.Ytalijnfbopcmeaa
open Go.RowKit

set_option maxHeartbeats 6400000 in
set_option maxRecDepth 100000 in
theorem implClasses_any (v : Value) (x : List Int) (w : World) (h : UnionFind_at w w.heap.size v x) (hw : UnionFind_wf x) :
    Calls Try.prog 27 #[v] w (GivesSS (EquivalenceClasses_r0 x) w) := by
  obtain ⟨P, c, rfl⟩ := UnionFind_form h
  have HX := Lib.hid h
  have hN := h.ints
  clear h
  obtain ⟨_, _, hv1, hc1, hc2⟩ := hN.form
  injection hv1 with e1 _ e2
  subst e1 e2
  unfold maxLen at hc2
  have HN := Lib.hid hN
  clear hN
  obtain ⟨E, hEq⟩ : ∃ E, E = w.alloc (.cells #[.slice P x.length c] 26) := ⟨_, rfl⟩
  have hE : Below w.heap.size w E := by rw [hEq]; exact (Below.refl _ _).alloc (Nat.le_refl _) _
  have HEz := Lib.hid (show E.heap.size = w.heap.size + 1 by rw [hEq]; simp)
  have S0 := Lib.hid (show E.cell? ⟨w.heap.size, 0, none⟩ = some (.slice P x.length c) by rw [hEq]; simp [go_sem])
  have hval := fun (bb : Bool) (hq : ufOk x = bb) => implIsValidUf_at x bb hq (.agg #[.slice P x.length c]) E ((HX.out.below hE (Nat.le_refl _)).more hE.size) hw
  rw [hEq] at hval
  cases hok : ufOk x with
  | false =>
    have hv := hval false hok
    have HV := Lib.hid (show EquivalenceClasses_r0 x = [] from if_neg (by rw [hok]; simp))
    clear hval hok
    go_enter Try.func27, Try.ntmps27
    go_wp2_with fail
    refine hv.mono ?_; rintro e w1 ⟨rfl, b1⟩
    rw [← hEq] at b1
    clear hEq
    go_wp2
    go_ret
    refine ⟨_, rfl, ?_, hE.trans (b1.mono hE.size)⟩
    rw [HV.out]
    exact ⟨[], IntSSO.nil _ _ _⟩
  | true =>
    have hv := hval true hok
    have HV := Lib.hid (show EquivalenceClasses_r0 x = classesTo x x.length from if_pos hok)
    have hl40 := (ufOk_parts hok).len
    clear hval hok
    go_enter Try.func27, Try.ntmps27
    go_wp2_with fail
    refine hv.mono ?_; rintro e W ⟨rfl, b1⟩
    rw [← hEq] at b1
    clear hEq hv
    have S1 := Lib.hid ((b1.cell (p := ⟨w.heap.size, 0, none⟩) (by show w.heap.size < _; have := HEz.out; omega)).trans S0.out)
    have s1 := S1.out
    have HW0 := Lib.hid (hE.trans (b1.mono hE.size))
    have hWz : w.heap.size + 1 ≤ W.heap.size := by have h1 := b1.size; have h2 := HEz.out; omega
    clear b1
    go_wp2
    clear s1
    go_loopw [3, 14] (fun cl i wr => ∃ (k : Nat) (Vs : List Value) (L : List (List Int)), k ≤ x.length ∧ i = .int .i64 (k : Nat) ∧ Hid (L = classesTo x k) ∧ Hid (IntSSO W.heap.size wr.heap.size cl Vs L wr) ∧ Below W.heap.size W wr) (fun _ i _ => x.length - (intOf i).toNat)
    case atStart => exact ⟨0, [], [], by omega, rfl, Lib.hid rfl, Lib.hid (IntSSO.nil _ _ _), Below.refl _ _⟩
    case round =>
      obtain ⟨k, Vs, L, hk, rfl, HL, HS, hW⟩ := hrel
      have hwW : Below w.heap.size w wr := HW0.out.trans (hW.mono HW0.out.size)
      have hzW := hW.size
      have s0 := (hW.cell (p := ⟨w.heap.size, 0, none⟩) (by show w.heap.size < _; omega)).trans S1.out
      have HLl := Lib.hid (show L.length ≤ 40 by rw [HL.out]; have := (classesTo_len x k).1; omega)
      obtain ⟨A, d, rfl, -, hdm⟩ := (HS.out.at_ (Nat.le_refl _)).form
      unfold maxLen at hdm
      by_cases hlt : k < x.length
      · obtain ⟨b, off, rfl, hb, c0⟩ := IntsAt.elem (HN.out.below hwW (Nat.le_refl _)) k hlt
        have hix := implIndexI_any (.slice (some ⟨b, off, none⟩) x.length c) x k hlt wr ((HN.out.below hwW (Nat.le_refl _)).more hwW.size)
        have hnb := implNullsBy_any (.agg #[.slice (some ⟨b, off, none⟩) x.length c]) x x[k] wr ((HX.out.below hwW (Nat.le_refl _)).more hwW.size) (by omega)
        have HTK := Lib.hid (takesAt_at hlt)
        have HYES := Lib.hid (fun h => classesTo_yes hlt h)
        have HNO := Lib.hid (fun h => classesTo_no (x := x) (k := k) h)
        have hnu : ∀ W, Calls Try.prog 49 #[.int .i64 x[k]] W fun e w' => e = .returned (.bool (decide (x[k] < 0))) ∧ W = w' := fun W => implIsNull_any x[k] W
        have hcl : (clsTo x x[k] x.length).length ≤ 40 := Nat.le_trans (clsTo_len x x[k] x.length) hl40
        have HNN := Lib.hid (show decide (0 ≤ x[k]) = !decide (x[k] < 0) by
          by_cases h : x[k] < 0
          · rw [decide_eq_true h, decide_eq_false (by omega)]; rfl
          · rw [decide_eq_false h, decide_eq_true (by omega)]; rfl)
        have hwk : -9223372036854775808 ≤ x[k] ∧ x[k] ≤ 9223372036854775807 := hw k hlt
        generalize x[k] = z at *
        go_wp2_with fail
        refine hix.mono ?_
        rintro e _ ⟨j, rfl, rfl, hj⟩
        have hjk : ((j : Int) == (k : Int)) = isFirst x k := by
          rw [hj]
          by_cases e : j = k
          · subst e; simp
          · rw [decide_eq_false e]; exact beq_eq_false_iff_ne.2 (by omega)
        have HJ := Lib.hid hj
        clear hix hj
        cases hfi : isFirst x k with
        | false =>
          rw [hfi] at hjk
          have HNX := Lib.hid (HNO.out (by rw [HTK.out, hfi]; rfl))
          clear hfi
          go_wp2_with (go_at_call 62; refine hnb.mono ?_; rintro e w2 ⟨u, rfl, hu, hb2⟩; have HU := Lib.hid hu; obtain ⟨P3, q3, rfl, hc3, hm3, -⟩ := id hu.1.at_; unfold maxLen at hm3; clear hu)
          go_roundw
          case rel => exact ⟨k + 1, Vs, L, by omega, by go_num, Lib.hid (by rw [HNX.out, HL.out]), Lib.hid ((HS.out.below hb2 (Nat.le_refl _)).mono (Nat.le_refl _) hb2.size), hW.trans (hb2.mono hzW)⟩
          case measure => simp [intOf]; omega
        | true =>
          rw [hfi] at hjk
          have HFI := Lib.hid hfi
          clear hfi
          go_wp2_with fail
          refine hnb.mono ?_
          rintro e w2 ⟨u, rfl, hu, hb2⟩
          have HU := Lib.hid hu
          obtain ⟨P3, q3, rfl, hc3, hm3, -⟩ := id hu.1.at_
          unfold maxLen at hm3
          have hb2z := hb2.size
          have HB2 := Lib.hid hb2
          have hWb := hW.trans (hb2.mono hzW)
          clear hu hnb hb2
          by_cases htk : takesAt x k = true
          · have HNX := Lib.hid (HYES.out htk)
            have hcond : 1 < (clsTo x z x.length).length ∨ ¬ 1 < (clsTo x z x.length).length ∧ ¬ z < 0 := by
              rw [HTK.out, HFI.out, Bool.true_and, Bool.or_eq_true, decide_eq_true_eq, decide_eq_true_eq] at htk
              omega
            have HS2 := Lib.hid ((HS.out.below HB2.out (Nat.le_refl _)).below ((Below.refl w2.heap.size w2).alloc (Nat.le_refl _) (.cells #[.slice P3 (clsTo x z x.length).length q3] 24)) hb2z)
            have HU2 := Lib.hid ((HU.out.below ((Below.refl w2.heap.size w2).alloc (Nat.le_refl _) (.cells #[.slice P3 (clsTo x z x.length).length q3] 24)) (Nat.le_refl _)).mono hzW (show w2.heap.size ≤ (w2.alloc (.cells #[.slice P3 (clsTo x z x.length).length q3] 24)).heap.size by simp))
            have hdis : ∀ (i : Nat) (hi : i < Vs.length), ∀ g, Vs[i].ownBlock = some g → (Value.slice P3 (clsTo x z x.length).length q3).ownBlock ≠ some g := fun i hi g h1 h2 => by
              have h3 := (HS.out.el i (by have := HS.out.len; omega) hi).2 g h1
              have h4 := (HU.out.1.lt g h2).1
              omega
            have HDI := Lib.hid hdis
            have hll : L.length ≤ 1000 := by have := HLl.out; omega
            clear htk hdis hjk
            rcases hcond with hc | ⟨hc, hz⟩
            · have hd1 : decide (1 < (clsTo x z x.length).length) = true := decide_eq_true hc
              have hd2 : decide ((1 : Int) < ((clsTo x z x.length).length : Int)) = true := decide_eq_true (by omega)
              clear hc
              go_wp2_with (at_builtin; refine ss_app HS2.out rfl _ _ rfl rfl w2.heap.size 1 (by simp [go_sem]) P3 _ q3 _ (by simp [go_sem]) HU2.out (by simp; omega) HDI.out hll (by simp; omega) ?_; intro v5 w5 hS5 hB5; have HS5 := Lib.hid hS5; have hWe := hWb.trans (((Below.refl W.heap.size w2).alloc (by omega) (.cells #[.slice P3 (clsTo x z x.length).length q3] 24)).trans hB5); obtain ⟨_, _, rfl, -, -⟩ := (hS5.at_ (Nat.le_refl _)).form; clear hS5 hB5)
              go_roundw
              case rel => exact ⟨k + 1, _, L ++ [clsTo x z x.length], by omega, by go_num, Lib.hid (by rw [HNX.out, HL.out]), Lib.hid HS5.out.len1, hWe⟩
              case measure => simp [intOf]; omega
            · have hd1 : decide (1 < (clsTo x z x.length).length) = false := decide_eq_false hc
              have hd2 : decide ((1 : Int) < ((clsTo x z x.length).length : Int)) = false := decide_eq_false (by omega)
              rw [decide_eq_false hz] at hnu
              clear hc hz
              go_wp2_with (first | (go_at_call 49; refine (hnu _).mono ?_; rintro e w9 ⟨rfl, rfl⟩) | (at_builtin; refine ss_app HS2.out rfl _ _ rfl rfl w2.heap.size 1 (by simp [go_sem]) P3 _ q3 _ (by simp [go_sem]) HU2.out (by simp; omega) HDI.out hll (by simp; omega) ?_; intro v5 w5 hS5 hB5; have HS5 := Lib.hid hS5; have hWe := hWb.trans (((Below.refl W.heap.size w2).alloc (by omega) (.cells #[.slice P3 (clsTo x z x.length).length q3] 24)).trans hB5); obtain ⟨_, _, rfl, -, -⟩ := (hS5.at_ (Nat.le_refl _)).form; clear hS5 hB5))
              go_roundw
              case rel => exact ⟨k + 1, _, L ++ [clsTo x z x.length], by omega, by go_num, Lib.hid (by rw [HNX.out, HL.out]), Lib.hid HS5.out.len1, hWe⟩
              case measure => simp [intOf]; omega
          · have htk' : takesAt x k = false := by simpa using htk
            have HNX := Lib.hid (HNO.out htk')
            rw [HTK.out, HFI.out, Bool.true_and, Bool.or_eq_false_iff, decide_eq_false_iff_not, decide_eq_false_iff_not] at htk'
            obtain ⟨hc, hz⟩ := htk'
            have hd1 : decide (1 < (clsTo x z x.length).length) = false := decide_eq_false hc
            have hd2 : decide ((1 : Int) < ((clsTo x z x.length).length : Int)) = false := decide_eq_false (by omega)
            rw [decide_eq_true (show z < 0 by omega)] at hnu
            clear htk hc hz
            go_wp2_with (go_at_call 49; refine (hnu _).mono ?_; rintro e w9 ⟨rfl, rfl⟩)
            go_roundw
            case rel => exact ⟨k + 1, Vs, L, by omega, by go_num, Lib.hid (by rw [HNX.out, HL.out]), Lib.hid ((HS.out.below HB2.out (Nat.le_refl _)).mono (Nat.le_refl _) hb2z), hWb⟩
            case measure => simp [intOf]; omega
      · obtain rfl : k = x.length := by omega
        go_wp2
        go_ret
        refine ⟨_, rfl, ?_, hwW⟩
        rw [HV.out, ← HL.out]
        exact ⟨Vs, HS.out.mono HW0.out.size (Nat.le_refl _)⟩
theorem implEquivalenceClasses_c (v : Value) (x : List Int) (w : World) (h : UnionFind_at w w.heap.size v x) (hw : UnionFind_wf x) (_ : UnionFind_sz x ≤ 1048576) :
    Calls Try.prog 27 #[v] w fun e w' => ∃ r, e = .returned r ∧ IntSS_own w.heap.size w'.heap.size r (EquivalenceClasses_r0 x) w' ∧ IntSS_sz (EquivalenceClasses_r0 x) ≤ 1048576 ∧ Below w.heap.size w w' :=
  (implClasses_any v x w h hw).mono fun _ _ ⟨r, he, ho, hb⟩ => ⟨r, he, ho, ufCls_sz x, hb⟩

end Go.Proofs.Ytalijnfbopcmeaa
