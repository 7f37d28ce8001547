/-
  Walks and plain lemmas for the laws of this seat: what single Go functions return, for every argument.
-/
import Derived.Test.YtalijnfbopcmeaaInts
import Derived.Test.YtalijnfbopcmeaaAft
import Derived.Test.YtalijnfbopcmeaaUfV
import Derived.Test.YtalijnfbopcmeaaTySS
import Derived.Test.YtalijnfbopcmeaaMCls
namespace Go.Proofs.Ytalijnfbopcmeaa
open Go.RowKit

set_option maxHeartbeats 12800000 in
set_option maxRecDepth 100000 in
theorem specClasses_any (v : Value) (x : List Int) (w : World) (h : UnionFind_at w w.heap.size v x) (hw : UnionFind_wf x) :
    Calls Try.prog 29 #[v] w (GivesSS (EquivalenceClasses_r0 x) w) := by
  obtain ⟨P, c, rfl⟩ := UnionFind_form h
  have HX := Lib.hid h
  have hN := h.ints
  clear h
  obtain ⟨_, _, hv1, hc1, hc2⟩ := hN.form
  injection hv1 with e1 _ e2
  subst e1 e2
  unfold maxLen at hc2
  have HN := Lib.hid hN
  clear hN
  obtain ⟨M, hM, hcs⟩ := ufCls_cases x
  have HCS := Lib.hid hcs
  have HV := Lib.hid hM
  have hM40 : M ≤ 40 := by omega
  have hMx : M ≤ x.length := by omega
  obtain ⟨W, hEq⟩ : ∃ E, E = (w.alloc (.cells #[.slice P x.length c] 26)).alloc (.cells #[] 24) := ⟨_, rfl⟩
  have hE : Below w.heap.size w W := by rw [hEq]; exact below_more (below_more (Below.refl _ _) _) _
  have HEz := Lib.hid (show W.heap.size = w.heap.size + 2 by rw [hEq]; simp)
  have S0 := Lib.hid (show W.cell? ⟨w.heap.size, 0, none⟩ = some (.slice P x.length c) by rw [hEq]; simp [go_sem])
  have hO0 : IntSSO (w.heap.size + 1) W.heap.size (.slice (some ⟨w.heap.size + 1, 0, none⟩) 0 0) [] [] W := by
    refine ⟨rfl, ?_, fun g hg => ?_, (fun i h => absurd h (by simp)), List.Pairwise.nil⟩
    · rw [hEq]
      have h1 := World.ownsRow_lit (base := w.heap.size + 1) (size := 1) (w.alloc (.cells #[.slice P x.length c] 26)) (e := 24) #[] 0 (by simp) (by decide) rfl
      simpa using h1
    · have h1 : g = w.heap.size + 1 := by simpa [Value.ownBlock] using hg.symm
      have := HEz.out; omega
  have HO0 := Lib.hid hO0
  have HW0 := Lib.hid hE
  obtain ⟨ok, hok⟩ : ∃ ok, ufOk x = ok := ⟨_, rfl⟩
  have HVAL := Lib.hid (fun (wq : World) (hb : Below w.heap.size w wq) => specIsValidUf_at x ok hok (.agg #[.slice P x.length c]) wq ((HX.out.below hb (Nat.le_refl _)).more hb.size) hw)
  have HOK := Lib.hid hok
  clear hok hM hcs hE hO0
  go_enter Try.func29, Try.ntmps29
  go_wp2
  rw [← hEq]
  clear hEq
  go_loopw [3, 4] (fun cl i wr => ∃ (k : Nat) (Vs : List Value) (L : List (List Int)), k ≤ M ∧ i = .int .i64 (k : Nat) ∧ Hid (L = classesTo x k) ∧ Hid (IntSSO (w.heap.size + 1) wr.heap.size cl Vs L wr) ∧ Hid (Below (w.heap.size + 1) W wr)) (fun _ i _ => M - (intOf i).toNat)
  case atStart => exact ⟨0, [], [], by omega, rfl, Lib.hid rfl, HO0, Lib.hid (Below.refl _ _)⟩
  case round =>
    obtain ⟨k, Vs, L, hk, rfl, HL, HS, HC⟩ := hrel
    have hzW : w.heap.size + 2 ≤ wr.heap.size := by have h1 := HC.out.size; have h2 := HEz.out; omega
    have hwW : Below w.heap.size w wr := HW0.out.trans (HC.out.mono (by omega))
    have s0 := (HC.out.cell (p := ⟨w.heap.size, 0, none⟩) (by show w.heap.size < _; omega)).trans S0.out
    have HLl := Lib.hid (show L.length ≤ 40 by rw [HL.out]; have := (classesTo_len x k).1; omega)
    obtain ⟨A, d, rfl, -, hdm⟩ := (HS.out.at_ (Nat.le_refl _)).form
    unfold maxLen at hdm
    have hv := HVAL.out wr hwW
    by_cases hlt : k < M
    · have hokt : ok = true := by rw [← HOK.out]; exact HCS.out.elim (fun h => h.1) (fun h => by omega)
      have hl40 : x.length ≤ 40 := HCS.out.elim (fun h => h.2.2) (fun h => by omega)
      have hkx : k < x.length := by omega
      subst hokt
      have hdk : decide ((k : Int) < (x.length : Int)) = true := decide_eq_true (by omega)
      have hdk2 : decide (k < x.length) = true := decide_eq_true hkx
      obtain ⟨b, off, rfl, hb, c0⟩ := IntsAt.elem (HN.out.below hwW (Nat.le_refl _)) k hkx
      go_wp2_with fail
      refine hv.mono ?_; rintro e w2 ⟨rfl, b2⟩
      clear hv
      have hb2z := b2.size
      have HS2 := Lib.hid ((HS.out.below b2 (Nat.le_refl _)).mono (Nat.le_refl _) hb2z)
      have s2 := (b2.cell (p := ⟨w.heap.size, 0, none⟩) (by show w.heap.size < _; omega)).trans s0
      have hW2 := hwW.trans (b2.mono hwW.size)
      have HC2 := Lib.hid (HC.out.trans (b2.mono (by omega)))
      have S2 := Lib.hid s2
      obtain ⟨z, hz⟩ : ∃ z, z = x[k] := ⟨_, rfl⟩
      have C0 := Lib.hid (show w2.cell? ⟨b, off + k, none⟩ = some (.int .i64 z) by rw [hz]; exact (b2.cell (p := ⟨b, off + k, none⟩) (by show b < _; omega)).trans c0)
      have HZ := Lib.hid hz
      clear s0 c0 b2 hz
      have HLO0 := Lib.hid (OwnInts.empty w2 w2.heap.size (Nat.le_refl _))
      have hAl2 : Below w2.heap.size w2 (w2.alloc (.cells #[] 3)) := (Below.refl _ _).alloc (Nat.le_refl _) _
      have HAl2 := Lib.hid hAl2
      clear hAl2
      go_upto_region 8 with fail
      obtain ⟨W2, hW2q⟩ : ∃ W2, W2 = w2.alloc (.cells #[] 3) := ⟨_, rfl⟩
      rw [← hW2q]
      have HOL := HLO0.out
      have hb2W := HAl2.out
      rw [← hW2q] at HOL hb2W
      clear hW2q HLO0 HAl2 s2
      go_loopw [5, 6, 7] (fun lv fv nv wr => ∃ (n : Nat) (L2 : List Int), n ≤ x.length ∧ nv = .int .i64 (n : Nat) ∧ fv = .bool (firstN x k n) ∧ Hid (L2 = clsTo x z n) ∧ Hid (OwnInts w2.heap.size lv L2 wr) ∧ Hid (Below w2.heap.size w2 wr)) (fun _ _ nv _ => x.length - (intOf nv).toNat)
      case atStart => exact ⟨0, [], by omega, rfl, rfl, Lib.hid rfl, Lib.hid HOL, Lib.hid hb2W⟩
      case round =>
        clear HOL hb2W
        obtain ⟨n, L2, hn, rfl, rfl, HL2, HO2, HB2⟩ := hrel
        have hz2 := HB2.out.size
        have s3 := (HB2.out.cell (p := ⟨w.heap.size, 0, none⟩) (by show w.heap.size < _; omega)).trans S2.out
        have ck := (HB2.out.cell (p := ⟨b, off + k, none⟩) (by show b < _; omega)).trans C0.out
        have hLl2 : L2.length ≤ 40 := by rw [HL2.out]; exact Nat.le_trans (clsTo_len x z n) (by omega)
        obtain ⟨P3, q3, rfl, hc3, hm3, -⟩ := id HO2.out.at_
        unfold maxLen at hm3
        by_cases hln : n < x.length
        · obtain ⟨b9, off9, hA9, -, c1⟩ := IntsAt.elem (HN.out.below (hW2.trans (HB2.out.mono hW2.size)) (Nat.le_refl _)) n hln
          obtain ⟨rfl, rfl⟩ : b = b9 ∧ off = off9 := by simpa using hA9
          clear hA9
          have hbw : b < w.heap.size := hb
          have hdn : decide ((n : Int) < (x.length : Int)) = true := decide_eq_true (by omega)
          have hG0 := Aft.cell (B := wr.heap.size) (w := wr) (b := w.heap.size) (o := 0) (by omega) s3
          have hG1 := Aft.cell (B := wr.heap.size) (w := wr) (b := b) (o := off + k) (by omega) ck
          obtain ⟨y, hy⟩ : ∃ y, y = x[n] := ⟨_, rfl⟩
          rw [← hy] at c1
          have hG2 := Aft.cell (B := wr.heap.size) (w := wr) (b := b) (o := off + n) (by omega) c1
          by_cases he : y = z
          · have hb2 : (y == z) = true := by rw [he]; exact beq_self_eq_true z
            have HX1 := Lib.hid (clsTo_yes (r := z) hln (hy.symm.trans he))
            have HF := Lib.hid (firstN_yes hln hkx (by rw [← hy, ← HZ.out]; exact he))
            clear he hy
            go_wp2
            refine wp_region_aft (Below.refl wr.heap.size wr) (by kernel_rfl) (by kernel_rfl) ?_
            repeat (go_big_quiet_step (fail))
            refine wpQuiet_nil ?_
            refine aft_end ?_
            intro w4 hh
            have hz4 : w2.heap.size ≤ w4.heap.size := Nat.le_trans hz2 hh.size
            have HB4 := Lib.hid (HB2.out.trans (hh.mono hz2))
            have HO4 := Lib.hid ((HO2.out.below hh (Nat.le_refl _)).below ((Below.refl w4.heap.size w4).alloc (Nat.le_refl _) (.cells #[.int .i64 (n : Int)] 3)) (Nat.le_refl _))
            have hone := OwnInts.one w4 w4.heap.size (n : Int) (Nat.le_refl _)
            have HONE := Lib.hid hone.at_
            clear hG0 hG1 hG2 s3 ck c1 hone hh
            cases hff : firstN x k n with
            | false =>
              go_wp2_with (at_builtin; refine ints_apps (r := [(n : Int)]) HO4.out rfl _ _ rfl rfl (some ⟨w4.heap.size, 0, none⟩) 1 1 rfl rfl HONE.out (fun h => by cases h) (by simp; omega) (by simp; omega) ?_; intro v5 w5 hO5 hB5 _ _; have hbA := ((Below.refl w2.heap.size w4).alloc hz4 (.cells #[.int .i64 (n : Int)] 3)).trans hB5; have HO5 := Lib.hid hO5; obtain ⟨P5, q5, rfl, -⟩ := hO5.at_; clear hO5 hB5)
              go_roundw
              case rel => exact ⟨n + 1, L2 ++ [(n : Int)], by omega, by go_num, (by rw [HF.out, hff]; rfl), Lib.hid (by rw [HX1.out, HL2.out]), Lib.hid (by simpa using HO5.out), Lib.hid (HB4.out.trans hbA)⟩
              case measure => simp [intOf]; omega
            | true =>
              by_cases hkn : k ≤ n
              · have hd1 : decide (k ≤ n) = true := decide_eq_true hkn
                have hd2 : decide ((k : Int) ≤ (n : Int)) = true := decide_eq_true (by omega)
                clear hkn
                go_wp2_with (at_builtin; refine ints_apps (r := [(n : Int)]) HO4.out rfl _ _ rfl rfl (some ⟨w4.heap.size, 0, none⟩) 1 1 rfl rfl HONE.out (fun h => by cases h) (by simp; omega) (by simp; omega) ?_; intro v5 w5 hO5 hB5 _ _; have hbA := ((Below.refl w2.heap.size w4).alloc hz4 (.cells #[.int .i64 (n : Int)] 3)).trans hB5; have HO5 := Lib.hid hO5; obtain ⟨P5, q5, rfl, -⟩ := hO5.at_; clear hO5 hB5)
                go_roundw
                case rel => exact ⟨n + 1, L2 ++ [(n : Int)], by omega, by go_num, (by rw [HF.out, hff, hd1]; rfl), Lib.hid (by rw [HX1.out, HL2.out]), Lib.hid (by simpa using HO5.out), Lib.hid (HB4.out.trans hbA)⟩
                case measure => simp [intOf]; omega
              · have hd1 : decide (k ≤ n) = false := decide_eq_false hkn
                have hd2 : decide ((k : Int) ≤ (n : Int)) = false := decide_eq_false (by omega)
                clear hkn
                go_wp2_with (at_builtin; refine ints_apps (r := [(n : Int)]) HO4.out rfl _ _ rfl rfl (some ⟨w4.heap.size, 0, none⟩) 1 1 rfl rfl HONE.out (fun h => by cases h) (by simp; omega) (by simp; omega) ?_; intro v5 w5 hO5 hB5 _ _; have hbA := ((Below.refl w2.heap.size w4).alloc hz4 (.cells #[.int .i64 (n : Int)] 3)).trans hB5; have HO5 := Lib.hid hO5; obtain ⟨P5, q5, rfl, -⟩ := hO5.at_; clear hO5 hB5)
                go_roundw
                case rel => exact ⟨n + 1, L2 ++ [(n : Int)], by omega, by go_num, (by rw [HF.out, hff, hd1]; rfl), Lib.hid (by rw [HX1.out, HL2.out]), Lib.hid (by simpa using HO5.out), Lib.hid (HB4.out.trans hbA)⟩
                case measure => simp [intOf]; omega
          · have hb2 : (y == z) = false := beq_eq_false_iff_ne.2 he
            have HX1 := Lib.hid (clsTo_no (r := z) hln (by rw [← hy]; exact he))
            have HF := Lib.hid (firstN_no hln hkx (by rw [← hy, ← HZ.out]; exact he))
            clear he hy
            go_wp2
            refine wp_region_aft (Below.refl wr.heap.size wr) (by kernel_rfl) (by kernel_rfl) ?_
            repeat (go_big_quiet_step (fail))
            refine wpQuiet_nil ?_
            refine aft_end ?_
            intro w4 hh
            have HB4 := Lib.hid (HB2.out.trans (hh.mono hz2))
            have HO4 := Lib.hid (HO2.out.below hh (Nat.le_refl _))
            clear hG0 hG1 hG2 s3 ck c1 hh
            go_wp2
            go_roundw
            case rel => exact ⟨n + 1, L2, by omega, by go_num, by rw [HF.out], Lib.hid (by rw [HX1.out, HL2.out]), HO4, HB4⟩
            case measure => simp [intOf]; omega
        · obtain rfl : n = x.length := by omega
          have hdn : decide ((x.length : Int) < (x.length : Int)) = false := decide_eq_false (by omega)
          have HTK := Lib.hid (show takesAt x k = (firstN x k x.length && (decide (1 < L2.length) || decide (0 ≤ z))) by
            rw [takesAt_at hkx, ← HZ.out, HL2.out]; rfl)
          have HYES := Lib.hid (show takesAt x k = true → classesTo x (k + 1) = L ++ [L2] from fun h => by rw [classesTo_yes hkx h, ← HZ.out, HL.out, HL2.out])
          have HNO := Lib.hid (show takesAt x k = false → classesTo x (k + 1) = L from fun h => by rw [classesTo_no h, HL.out])
          have HC3 := Lib.hid (HC2.out.trans (HB2.out.mono (by omega)))
          have HS3 := Lib.hid (HS2.out.below HB2.out (Nat.le_refl _))
          have hll : L.length ≤ 1000 := by have := HLl.out; omega
          have HU2 := Lib.hid (show IntS_own (w.heap.size + 1) (wr.alloc (.cells #[.slice P3 L2.length q3] 24)).heap.size (.slice P3 L2.length q3) L2 (wr.alloc (.cells #[.slice P3 L2.length q3] 24)) from
            ((IntsO.of HO2.out : IntS_own w2.heap.size wr.heap.size (.slice P3 L2.length q3) L2 wr).below ((Below.refl wr.heap.size wr).alloc (Nat.le_refl _) (.cells #[.slice P3 L2.length q3] 24)) (Nat.le_refl _)).mono (by omega) (by simp))
          have HS4 := Lib.hid (HS3.out.below ((Below.refl wr.heap.size wr).alloc (Nat.le_refl _) (.cells #[.slice P3 L2.length q3] 24)) hz2)
          have hdis : ∀ (i : Nat) (hi : i < Vs.length), ∀ g, Vs[i].ownBlock = some g → (Value.slice P3 L2.length q3).ownBlock ≠ some g := fun i hi g h1 h2 => by
            have h3 := (HS2.out.el i (by have := HS2.out.len; omega) hi).2 g h1
            have h4 := (HO2.out.lt g h2).1
            omega
          have HDI := Lib.hid hdis
          clear hdis
          have hkk : decide ((k : Int) < (x.length : Int)) = true := hdk
          cases hff : firstN x k x.length with
          | false =>
            have HNX := Lib.hid (HNO.out (by rw [HTK.out, hff]; rfl))
            go_wp2
            go_roundw
            case rel => exact ⟨k + 1, Vs, L, by omega, by go_num, Lib.hid HNX.out.symm, Lib.hid (HS3.out.mono (Nat.le_refl _) hz2), HC3⟩
            case measure => simp [intOf]; omega
          | true =>
            by_cases hc : 1 < L2.length
            · have hd1 : decide (1 < L2.length) = true := decide_eq_true hc
              have hd2 : decide ((1 : Int) < (L2.length : Int)) = true := decide_eq_true (by omega)
              have HNX := Lib.hid (HYES.out (by rw [HTK.out, hff, hd1]; rfl))
              clear hc
              go_wp2_with (at_builtin; refine ss_app HS4.out rfl _ _ rfl rfl wr.heap.size 1 (by simp [go_sem]) P3 _ q3 _ (by simp [go_sem]) HU2.out (by simp; omega) HDI.out hll (by simp; omega) ?_; intro v5 w5 hS5 hB5; have HS5 := Lib.hid hS5; have HWe := Lib.hid (HC3.out.trans (((Below.refl (w.heap.size + 1) wr).alloc (by omega) (.cells #[.slice P3 L2.length q3] 24)).trans hB5)); obtain ⟨_, _, rfl, -, -⟩ := (hS5.at_ (Nat.le_refl _)).form; clear hS5 hB5)
              go_roundw
              case rel => exact ⟨k + 1, _, L ++ [L2], by omega, by go_num, Lib.hid HNX.out.symm, Lib.hid HS5.out.len1, HWe⟩
              case measure => simp [intOf]; omega
            · have hd1 : decide (1 < L2.length) = false := decide_eq_false hc
              have hd2 : decide ((1 : Int) < (L2.length : Int)) = false := decide_eq_false (by omega)
              clear hc
              by_cases hzz : 0 ≤ z
              · have hd3 : decide (0 ≤ z) = true := decide_eq_true hzz
                have HNX := Lib.hid (HYES.out (by rw [HTK.out, hff, hd1, hd3]; rfl))
                clear hzz
                go_wp2_with (at_builtin; refine ss_app HS4.out rfl _ _ rfl rfl wr.heap.size 1 (by simp [go_sem]) P3 _ q3 _ (by simp [go_sem]) HU2.out (by simp; omega) HDI.out hll (by simp; omega) ?_; intro v5 w5 hS5 hB5; have HS5 := Lib.hid hS5; have HWe := Lib.hid (HC3.out.trans (((Below.refl (w.heap.size + 1) wr).alloc (by omega) (.cells #[.slice P3 L2.length q3] 24)).trans hB5)); obtain ⟨_, _, rfl, -, -⟩ := (hS5.at_ (Nat.le_refl _)).form; clear hS5 hB5)
                go_roundw
                case rel => exact ⟨k + 1, _, L ++ [L2], by omega, by go_num, Lib.hid HNX.out.symm, Lib.hid HS5.out.len1, HWe⟩
                case measure => simp [intOf]; omega
              · have hd3 : decide (0 ≤ z) = false := decide_eq_false hzz
                have HNX := Lib.hid (HNO.out (by rw [HTK.out, hff, hd1, hd3]; rfl))
                clear hzz
                go_wp2
                go_roundw
                case rel => exact ⟨k + 1, Vs, L, by omega, by go_num, Lib.hid HNX.out.symm, Lib.hid (HS3.out.mono (Nat.le_refl _) hz2), HC3⟩
                case measure => simp [intOf]; omega
    · obtain rfl : k = M := by omega
      have fin : ∀ wq, Below wr.heap.size wr wq → IntSS_own w.heap.size wq.heap.size (.slice A L.length d) (EquivalenceClasses_r0 x) wq ∧ Below w.heap.size w wq := fun wq hb => by
        refine ⟨?_, hwW.trans (hb.mono hwW.size)⟩
        rw [HV.out, ← HL.out]
        exact ⟨Vs, (HS.out.below hb (Nat.le_refl _)).mono (by omega) hb.size⟩
      have FIN := Lib.hid fin
      clear fin
      rcases HCS.out with ⟨h1, h2, h3⟩ | ⟨h1, h2⟩
      · have hdk : decide ((k : Int) < (x.length : Int)) = false := decide_eq_false (by omega)
        have hdk2 : decide (k < x.length) = false := decide_eq_false (by omega)
        clear h1 h2 h3 hv
        go_wp2
        go_ret
        exact ⟨_, rfl, FIN.out wr (Below.refl _ _)⟩
      · by_cases hx0 : x.length = 0
        · have hdk : decide ((k : Int) < (x.length : Int)) = false := decide_eq_false (by omega)
          have hdk2 : decide (k < x.length) = false := decide_eq_false (by omega)
          clear h1 h2 hv hx0
          go_wp2
          go_ret
          exact ⟨_, rfl, FIN.out wr (Below.refl _ _)⟩
        · have hdk : decide ((k : Int) < (x.length : Int)) = true := decide_eq_true (by omega)
          have hdk2 : decide (k < x.length) = true := decide_eq_true (by omega)
          have hokf : ok = false := by rw [← HOK.out]; exact h1
          subst hokf
          clear h1 h2 hx0
          go_wp2_with fail
          refine hv.mono ?_; rintro e w2 ⟨rfl, b2⟩
          go_wp2
          go_ret
          exact ⟨_, rfl, FIN.out w2 b2⟩
theorem specEquivalenceClasses_c (v : Value) (x : List Int) (w : World) (h : UnionFind_at w w.heap.size v x) (hw : UnionFind_wf x) (_ : UnionFind_sz x ≤ 1048576) :
    Calls Try.prog 29 #[v] w fun e w' => ∃ r, e = .returned r ∧ IntSS_at w' w'.heap.size r (EquivalenceClasses_r0 x) ∧ Below w.heap.size w w' :=
  (specClasses_any v x w h hw).mono fun _ _ ⟨r, he, ho, hb⟩ => ⟨r, he, ho.at_ (Nat.le_refl _), hb⟩

end Go.Proofs.Ytalijnfbopcmeaa
