/-
  Walks and plain lemmas for the laws of this seat: what single Go functions return, for every argument.
-/
import Derived.Deep.Quiet
import Derived.Test.YtalijnfbopcmeaaDraw
import Derived.Test.YtalijnfbopcmeaaNum
import Derived.Test.YtalijnfbopcmeaaUfV
import Derived.Test.YtalijnfbopcmeaaDrawUL
import Derived.Test.YtalijnfbopcmeaaUfFI
import Derived.Test.YtalijnfbopcmeaaUfSI
import Derived.Test.YtalijnfbopcmeaaLift
import Derived.Test.YtalijnfbopcmeaaSame
import Derived.Test.YtalijnfbopcmeaaMClsLaw
import Derived.Test.YtalijnfbopcmeaaUfCC
import Derived.Test.YtalijnfbopcmeaaUfCS
namespace Go.Proofs.Ytalijnfbopcmeaa
open Go.RowKit

theorem run_fieldNulls (a b : Value) (w : World) : (Instr.field 35 (.agg #[a, b]) 0).run Try.prog w = .ok a w := by
  simp [Instr.field, go_sem, part, asAgg]
set_option maxHeartbeats 12800000 in
set_option maxRecDepth 100000 in
theorem walkEC (q : Option Addr) (code : List UInt8) (c : Nat) (_ : code.length ≤ maxLen) (w : World) (hc : CodeAt w w.heap.size (.slice q code.length c) code) :
    Calls Try.prog 4 #[.slice q code.length c] w fun e w' => e = .returned (.bool true) ∧ Below w.heap.size w w' := by
  by_cases hbig : 1048576 < code.length
  · have hd : decide (1048576 < ((code.length : Nat) : Int)) = true := by simp; omega
    go_enter Try.func4, Try.ntmps4
    go_wp2_with fail
    refine (big_any q _ c _).mono ?_; rintro e w1 ⟨rfl, rfl⟩
    go_wp2_with fail
    go_ret
    exact ⟨rfl, Below.refl _ _⟩
  · have hlen : code.length ≤ 1048576 := by omega
    have hd : decide (1048576 < ((code.length : Nat) : Int)) = false := by simp; omega
    clear hbig
    go_enter Try.func4, Try.ntmps4
    go_wp2_with fail
    refine (big_any q _ c _).mono ?_; rintro e w1 ⟨rfl, rfl⟩
    go_wp2_with fail
    refine (drawClasses_c _ code _ hc hlen).mono ?_
    rintro e w2 ⟨V, x, rfl, hV, hs, hb1⟩
    obtain ⟨P, cx, rfl⟩ := UnionFind_form hV
    have hwf := hs.wf
    have hszx := hs.sz
    have hlx : x.length ≤ 6 := hs.1.2
    obtain ⟨g, hg⟩ : ∃ g, g = w2.heap.size := ⟨_, rfl⟩
    obtain ⟨W, hWq⟩ : ∃ W, W = w2.alloc (.cells #[.slice P x.length cx] 26) := ⟨_, rfl⟩
    have hAl : Below w2.heap.size w2 W := by rw [hWq]; exact (Below.refl _ _).alloc (Nat.le_refl _) _
    have hWz : g < W.heap.size := by rw [hWq, hg]; simp
    have G0 := Lib.hid (show W.cell? ⟨g, 0, none⟩ = some (.slice P x.length cx) by rw [hWq, hg]; simp [go_sem])
    have HX := Lib.hid (hV.later hAl)
    have HW := Lib.hid (hb1.trans (hAl.mono hb1.size))
    go_upto_region 4 with fail
    rw [← hg, ← hWq]
    clear hg hWq hAl hV hs hb1 hd hc hlen
    have g0 := G0.out
    go_wp2_with fail
    refine (implClasses_any _ x W HX.out hwf).mono ?_
    rintro e w3 ⟨r, rfl, hO3, hb3⟩
    obtain ⟨A, d, rfl, hdl, hdm⟩ := (hO3.at_ (Nat.le_refl _)).form
    have hz3 := hb3.size
    have g3 := (hb3.cell (p := ⟨g, 0, none⟩) hWz).trans g0
    have HO3 := Lib.hid (hO3.at_ (Nat.le_refl _))
    have HX3 := Lib.hid (HX.out.later hb3)
    have HB3 := Lib.hid hb3
    clear g0 hO3 hb3
    go_wp2_with fail
    refine (specClasses_any _ x w3 HX3.out hwf).mono ?_
    rintro e w4 ⟨r4, rfl, hO4, hb4⟩
    obtain ⟨A4, d4, rfl, -⟩ := (hO4.at_ (Nat.le_refl _)).form
    have hz4 := hb4.size
    have g4 := (hb4.cell (p := ⟨g, 0, none⟩) (by show g < _; omega)).trans g3
    have hL4 : IntSS_at w4 w4.heap.size (.slice A (EquivalenceClasses_r0 x).length d) (EquivalenceClasses_r0 x) := (HO3.out.below hb4 (Nat.le_refl _)).more hz4
    have HX4 := Lib.hid (HX3.out.later hb4)
    have HB4 := Lib.hid (HB3.out.trans (hb4.mono hz3))
    have hsr := sameRows_c _ _ _ w4 hL4 (hO4.at_ (Nat.le_refl _))
    have HL4 := Lib.hid hL4
    clear g3 hO4 hb4 hL4
    go_wp2_with fail
    refine hsr.mono ?_
    rintro e w5 ⟨rfl, hb5⟩
    have hz5 := hb5.size
    have G5 := Lib.hid ((hb5.cell (p := ⟨g, 0, none⟩) (by show g < _; omega)).trans g4)
    have HL5 := Lib.hid ((HL4.out.below hb5 (Nat.le_refl _)).more hz5)
    have HX5 := Lib.hid (HX4.out.later hb5)
    have HB5 := Lib.hid (HW.out.trans ((HB4.out.trans (hb5.mono (by omega))).mono HW.out.size))
    have hg5 : g < w5.heap.size := by omega
    have HSZ := Lib.hid (ufCls_sz x)
    have HREP := Lib.hid (fun row (h : row ∈ EquivalenceClasses_r0 x) => class_rep h)
    have HEND := Lib.hid (fun h => classes_end (x := x) h)
    clear hb5 hsr g4
    generalize EquivalenceClasses_r0 x = L at *
    unfold maxLen at hdm
    have hsum : ∀ i, lenSum (L.take i) ≤ 1048576 := fun i => by have h1 := lenSum_le L i; have h2 := HSZ.out; unfold IntSS_sz at h2; omega
    have HSUM := Lib.hid hsum
    clear hsum
    go_wp2
    go_loopw [5, 6] (fun nv iv wr => ∃ i : Nat, i ≤ L.length ∧ iv = .int .i64 (i : Nat) ∧ nv = .int .i64 (lenSum (L.take i) : Nat) ∧ Hid (Below w5.heap.size w5 wr)) (fun _ iv _ => L.length - (intOf iv).toNat)
    case atStart => exact ⟨0, by omega, rfl, rfl, Lib.hid (Below.refl _ _)⟩
    case round =>
      obtain ⟨i, hi, rfl, rfl, HC⟩ := hrel
      have hzr := HC.out.size
      have hbdi := HSUM.out i
      by_cases hlt : i < L.length
      · obtain ⟨b, off, V, rfl, hb, c1, hV⟩ := IntSS_at.elem HL5.out i hlt
        obtain ⟨P3, d3, rfl, hd3, hd3m, -⟩ := id hV
        unfold maxLen at hd3m
        have HV := Lib.hid hV
        have C1 := Lib.hid c1
        have cr := (HC.out.cell (p := ⟨b, off + i, none⟩) hb).trans c1
        have HLS := Lib.hid (lenSum_take L i hlt)
        have hbds := HSUM.out (i + 1)
        have HR := Lib.hid (HREP.out L[i] (List.getElem_mem hlt))
        have hrl : L[i].length ≤ 1048576 := by have h1 := HLS.out; omega
        generalize L[i] = row at *
        clear hV c1
        go_upto_region 12 with fail
        go_wp2
        clear cr
        go_loopw [7] (fun kv wr => ∃ k : Nat, k ≤ row.length ∧ kv = .int .i64 (k : Nat) ∧ Hid (Below w5.heap.size w5 wr)) (fun kv _ => row.length - (intOf kv).toNat)
        case atStart => exact ⟨0, by omega, rfl, HC⟩
        case round =>
          obtain ⟨k, hk, rfl, HCi⟩ := hrel
          have hzi := HCi.out.size
          have cr := (HCi.out.cell (p := ⟨b, off + i, none⟩) hb).trans C1.out
          by_cases hkl : k < row.length
          · obtain ⟨b3, off3, rfl, hb3, ck⟩ := IntsAt.elem HV.out k hkl
            obtain ⟨b4, off4, hA4, -, cz⟩ := IntsAt.elem HV.out 0 (by omega)
            obtain ⟨rfl, rfl⟩ : b3 = b4 ∧ off3 = off4 := by simpa using hA4
            obtain ⟨rr, hrr⟩ := HR.out
            have hk1 := hrr row[k] (List.getElem_mem hkl)
            have hk2 := hrr row[0] (List.getElem_mem (by omega))
            obtain ⟨m, hm⟩ : ∃ m, m = row[k] := ⟨_, rfl⟩
            obtain ⟨m0, hm0⟩ : ∃ m0, m0 = row[0] := ⟨_, rfl⟩
            rw [← hm] at ck hk1
            rw [← hm0] at cz hk2
            clear hm hm0 hrr hA4
            rw [Nat.add_zero] at cz
            have kr := (HCi.out.cell (p := ⟨b3, off3 + k, none⟩) hb3).trans ck
            have zr := (HCi.out.cell (p := ⟨b3, off3, none⟩) hb3).trans cz
            have gr := (HCi.out.cell (p := ⟨g, 0, none⟩) hg5).trans G5.out
            have A1 := Aft.cell (B := wr.heap.size) (w := wr) (by omega) cr
            have A2 := Aft.cell (B := wr.heap.size) (w := wr) (by omega) kr
            have A3 := Aft.cell (B := wr.heap.size) (w := wr) (by omega) zr
            have A4' := Aft.cell (B := wr.heap.size) (w := wr) (by omega) gr
            have HXr := Lib.hid (HX5.out.later HCi.out)
            have hn1 : ∀ W, Calls Try.prog 30 #[.int .i64 m] W fun e w' => e = .returned (.int .i64 (-1 - m)) ∧ W = w' := fun W => implNullValue_any m W (by omega) (by omega)
            have hn2 : ∀ W, Calls Try.prog 30 #[.int .i64 m0] W fun e w' => e = .returned (.int .i64 (-1 - m0)) ∧ W = w' := fun W => implNullValue_any m0 W (by omega) (by omega)
            have hf1 := fun (u : Aft wr.heap.size wr) => (by have := implFind_any (.agg #[.slice P x.length cx]) x (-1 - m) u.now (HXr.out.later u.is) hwf (by omega) (by omega); rwa [hk1.2] at this : Calls Try.prog 20 #[.agg #[.slice P x.length cx], .int .i64 (-1 - m)] u.now fun e w' => e = .returned (.int .i64 rr) ∧ Below u.now.heap.size u.now w')
            have hf2 := fun (u : Aft wr.heap.size wr) => (by have := implFind_any (.agg #[.slice P x.length cx]) x (-1 - m0) u.now (HXr.out.later u.is) hwf (by omega) (by omega); rwa [hk2.2] at this : Calls Try.prog 20 #[.agg #[.slice P x.length cx], .int .i64 (-1 - m0)] u.now fun e w' => e = .returned (.int .i64 rr) ∧ Below u.now.heap.size u.now w')
            clear hk1 hk2 kr zr gr ck cz
            generalize -1 - m = v1 at *
            generalize -1 - m0 = v2 at *
            go_wp2_with fail
            refine wp_region_aft (Below.refl wr.heap.size wr) (by kernel_rfl) (by kernel_rfl) ?_
            repeat (go_big_quiet_step (fail))
            go_big_quiet_step (((go_at_call 30; exact calls_aft_same (hn1 _))))
            go_big_quiet_step (((go_at_call 20; exact calls_aft (Nat.le_refl _) (hf1 _))))
            repeat (go_big_quiet_step (fail))
            go_big_quiet_step (((go_at_call 30; exact calls_aft_same (hn2 _))))
            go_big_quiet_step (((go_at_call 20; exact calls_aft (Nat.le_refl _) (hf2 _))))
            repeat (go_big_quiet_step (fail))
            refine wpQuiet_nil ?_
            refine aft_end ?_
            intro w6 hh
            clear A1 A2 A3 A4' hn1 hn2 hf1 hf2 cr
            go_wp2
            go_roundw
            case rel => exact ⟨k + 1, by omega, by go_num, Lib.hid (HCi.out.trans (hh.mono (by omega)))⟩
            case measure => simp [intOf]; omega
          · obtain rfl : k = row.length := by omega
            go_wp2
            go_roundw
            case rel => exact ⟨i + 1, by omega, by go_num, by rw [HLS.out]; go_num, HCi⟩
            case measure => simp [intOf]; omega
      · obtain rfl : i = L.length := by omega
        have gr := (HC.out.cell (p := ⟨g, 0, none⟩) hg5).trans G5.out
        have hXr := HX5.out.later HC.out
        have HBr := Lib.hid (HB5.out.trans (HC.out.mono (by have := HB5.out.size; omega)))
        have hLL : lenSum (L.take L.length) = lenSum L := by rw [List.take_length]
        rw [hLL]
        clear hLL hbdi
        cases hok : ufOk x with
        | false =>
          have hv := specIsValidUf_at x false hok _ wr hXr hwf
          clear hok
          go_wp2_with (go_at_call 19; refine hv.mono ?_; rintro e w6 ⟨rfl, hb6⟩)
          go_ret
          exact ⟨rfl, HBr.out.trans (hb6.mono HBr.out.size)⟩
        | true =>
          have hv := specIsValidUf_at x true hok _ wr hXr hwf
          have he := HEND.out hok
          have hd1 : decide ((lenSum L : Int) ≤ (x.length : Int)) = true := decide_eq_true (by omega)
          have hd2 : decide (lenSum L ≤ x.length) = true := decide_eq_true he.1
          have hd3 : decide (((UnionSubstitution_r0 x).nulls.length : Int) ≤ (lenSum L : Int)) = true := decide_eq_true (by omega)
          have hd4 : decide ((UnionSubstitution_r0 x).nulls.length ≤ lenSum L) = true := decide_eq_true he.2
          clear hok he
          go_wp2_with fail
          refine hv.mono ?_; rintro e w6 ⟨rfl, hb6⟩
          have g6 := (hb6.cell (p := ⟨g, 0, none⟩) (by show g < _; omega)).trans gr
          have hus := implUnionSubstitution_any _ x w6 (hXr.later hb6) hwf
          have HB6 := Lib.hid (HBr.out.trans (hb6.mono HBr.out.size))
          have hz6 := hb6.size
          clear gr hv hb6 hXr
          go_wp2_with fail
          refine hus.mono ?_
          rintro e w7 ⟨r7, rfl, hO7, hb7⟩
          obtain ⟨P7, c7, Q7, e7, rfl⟩ := Substitution_form (hO7.at_ (Nat.le_refl _))
          have HB7 := Lib.hid (HB6.out.trans (hb7.mono HB6.out.size))
          have g7 := (hb7.cell (p := ⟨g, 0, none⟩) (by show g < _; omega)).trans g6
          clear hus hO7 hb7 g6
          have hfl := run_fieldNulls
          go_wp2
          go_ret
          exact ⟨rfl, HB7.out⟩

end Go.Proofs.Ytalijnfbopcmeaa
