/-
  Walks and plain lemmas for the laws of this seat: what single Go functions return, for every argument.
-/
import Derived.Deep.Quiet
import Derived.Test.YtalijnfbopcmeaaDraw
import Derived.Test.YtalijnfbopcmeaaMUf
import Derived.Test.YtalijnfbopcmeaaPlan
import Derived.Test.YtalijnfbopcmeaaUfV
import Derived.Test.YtalijnfbopcmeaaUfF
import Derived.Test.YtalijnfbopcmeaaUfU
import Derived.Test.YtalijnfbopcmeaaDrawUU
import Derived.Test.YtalijnfbopcmeaaMUniLaw
import Derived.Test.YtalijnfbopcmeaaUfVI
import Derived.Test.YtalijnfbopcmeaaUfFI
import Derived.Test.YtalijnfbopcmeaaUfUI
import Derived.Test.YtalijnfbopcmeaaUfE
import Derived.Test.YtalijnfbopcmeaaUfEI
import Derived.Test.YtalijnfbopcmeaaUfSI
import Derived.Test.YtalijnfbopcmeaaSubsV
import Derived.Test.YtalijnfbopcmeaaSubsAI
import Derived.Test.YtalijnfbopcmeaaUfNI
import Derived.Test.YtalijnfbopcmeaaLift
namespace Go.Proofs.Ytalijnfbopcmeaa
open Go.RowKit

theorem run_fieldReps (a : Value) (w : World) : (Instr.field 26 (.agg #[a]) 0).run Try.prog w = .ok a w := by
  simp [Instr.field, go_sem, part, asAgg]
set_option maxHeartbeats 12800000 in
set_option maxRecDepth 100000 in
theorem walkUF (q : Option Addr) (code : List UInt8) (c : Nat) (_ : code.length ≤ maxLen) (w : World) (hc : CodeAt w w.heap.size (.slice q code.length c) code) :
    Calls Try.prog 3 #[.slice q code.length c] w fun e w' => e = .returned (.bool true) ∧ Below w.heap.size w w' := by
  by_cases hbig : 1048576 < code.length
  · have hd : decide (1048576 < ((code.length : Nat) : Int)) = true := by simp; omega
    go_enter Try.func3, Try.ntmps3
    go_wp2_with fail
    refine (big_any q _ c _).mono ?_; rintro e w1 ⟨rfl, rfl⟩
    go_wp2_with fail
    go_ret
    exact ⟨rfl, Below.refl _ _⟩
  · have hlen : code.length ≤ 1048576 := by omega
    have hd : decide (1048576 < ((code.length : Nat) : Int)) = false := by simp; omega
    clear hbig
    go_enter Try.func3, Try.ntmps3
    go_wp2_with fail
    refine (big_any q _ c _).mono ?_; rintro e w1 ⟨rfl, rfl⟩
    go_wp2_with fail
    refine (drawUnion_c _ code _ hc hlen).mono ?_
    rintro e w2 ⟨V, x, a, b, rfl, hV, hs, ha, hb, hb1⟩
    obtain ⟨P, cx, rfl⟩ := UnionFind_form hV
    have hwf := hs.wf
    have hszx := hs.sz
    have hlx : 1 ≤ x.length ∧ x.length ≤ 6 := hs.1
    have hrx := hs.2
    obtain ⟨g1, hg1⟩ : ∃ g, g = w2.heap.size := ⟨_, rfl⟩
    obtain ⟨W1, hWq⟩ : ∃ W, W = w2.alloc (.cells #[.slice P x.length cx] 26) := ⟨_, rfl⟩
    have hAl : Below w2.heap.size w2 W1 := by rw [hWq]; exact (Below.refl _ _).alloc (Nat.le_refl _) _
    have hWz1 : g1 < W1.heap.size := by rw [hWq, hg1]; simp
    have G1 := Lib.hid (show W1.cell? ⟨g1, 0, none⟩ = some (.slice P x.length cx) by rw [hWq, hg1]; simp [go_sem])
    have HX1 := Lib.hid (hV.later hAl)
    have HW1 := Lib.hid (hb1.trans (hAl.mono hb1.size))
    go_upto_region 4 with fail
    rw [← hg1, ← hWq]
    clear hg1 hWq hAl hV hs hb1 hd hc hlen
    have e1 := G1.out
    go_wp2_with fail
    refine (implUnion_any _ x a b W1 HX1.out hwf (by omega) (by omega) (by omega) (by omega) (by omega)).mono ?_
    rintro e w3 ⟨r, rfl, hO3, hb3⟩
    obtain ⟨P2, c2, rfl⟩ := UnionFind_form (hO3.at_ (Nat.le_refl _))
    have hz3 := hb3.size
    obtain ⟨g2, hg2⟩ : ∃ g, g = w3.heap.size := ⟨_, rfl⟩
    obtain ⟨W2, hWq⟩ : ∃ W, W = w3.alloc (.cells #[.slice P2 (Union_r0 x a b).length c2] 26) := ⟨_, rfl⟩
    have hAl : Below w3.heap.size w3 W2 := by rw [hWq]; exact (Below.refl _ _).alloc (Nat.le_refl _) _
    have hWz2 : g2 < W2.heap.size := by rw [hWq, hg2]; simp
    have hbW2 : Below W1.heap.size W1 W2 := hb3.trans (hAl.mono hz3)
    have G12 := Lib.hid ((hbW2.cell (p := ⟨g1, 0, none⟩) hWz1).trans e1)
    have G22 := Lib.hid (show W2.cell? ⟨g2, 0, none⟩ = some (.slice P2 (Union_r0 x a b).length c2) by rw [hWq, hg2]; simp [go_sem])
    have HX2 := Lib.hid (HX1.out.later hbW2)
    have HY2 := Lib.hid ((hO3.at_ (Nat.le_refl _)).later hAl)
    have HW2 := Lib.hid (HW1.out.trans (hbW2.mono HW1.out.size))
    have hz12 := hbW2.size
    go_upto_region 5 with fail
    rw [← hg2, ← hWq]
    clear hg2 hWq hAl hO3 hb3 hbW2 e1
    have e1 := G12.out
    go_wp2_with fail
    refine (specUnion_any _ x a b W2 HX2.out hwf (by omega) (by omega) (by omega) (by omega) (by omega)).mono ?_
    rintro e w4 ⟨r, rfl, hO4, hb4⟩
    obtain ⟨P3, c3, rfl⟩ := UnionFind_form (hO4.at_ (Nat.le_refl _))
    have hz4 := hb4.size
    obtain ⟨g3, hg3⟩ : ∃ g, g = w4.heap.size := ⟨_, rfl⟩
    obtain ⟨W, hWq⟩ : ∃ W, W = w4.alloc (.cells #[.slice P3 (Union_r0 x a b).length c3] 26) := ⟨_, rfl⟩
    have hAl : Below w4.heap.size w4 W := by rw [hWq]; exact (Below.refl _ _).alloc (Nat.le_refl _) _
    have hWz3 : g3 < W.heap.size := by rw [hWq, hg3]; simp
    have hbW : Below W2.heap.size W2 W := hb4.trans (hAl.mono hz4)
    have hz23 := hbW.size
    have GX := Lib.hid ((hbW.cell (p := ⟨g1, 0, none⟩) (by show g1 < _; omega)).trans e1)
    have GY := Lib.hid ((hbW.cell (p := ⟨g2, 0, none⟩) hWz2).trans G22.out)
    have GZ := Lib.hid (show W.cell? ⟨g3, 0, none⟩ = some (.slice P3 (Union_r0 x a b).length c3) by rw [hWq, hg3]; simp [go_sem])
    have HX := Lib.hid (HX2.out.later hbW)
    have HY := Lib.hid (HY2.out.later hbW)
    have HZ := Lib.hid ((hO4.at_ (Nat.le_refl _)).later hAl)
    have HW := Lib.hid (HW2.out.trans (hbW.mono HW2.out.size))
    go_upto_region 6 with fail
    rw [← hg3, ← hWq]
    clear hg3 hWq hAl hO4 hb4 hbW e1
    have HTWO := Lib.hid (uni_two (x := x) (a := a) (b := b))
    have HLAW := Lib.hid (fun h => uni_law (x := x) (a := a) (b := b) (uni_ok h) h)
    have HUOK := Lib.hid (uni_ok (x := x) (a := a) (b := b))
    have hyr := Union_range (a := a) (b := b) hrx (by omega) (by omega)
    have hyl := Union_r0_len x a b
    have HYL := Lib.hid hyl
    have HYR := Lib.hid hyr
    have hwy : UnionFind_wf (Union_r0 x a b) := fun i hi => by have := hyr _ (List.getElem_mem hi); omega
    clear hyr hyl hrx
    generalize Union_r0 x a b = y at *
    generalize hcv : Union_r1 x a b = cv at *
    clear hcv
    have hcc : (cv != cv) = false := by simp
    obtain ⟨ok, hok⟩ : ∃ ok, ufOk x = ok := ⟨_, rfl⟩
    have hoo : (ok != ok) = false := by simp
    have he1 := fun (u : Aft W.heap.size W) => (by have := specEqualUf_any (.agg #[.slice P2 y.length c2]) (.agg #[.slice P3 y.length c3]) y y u.now (HY.out.later u.is) (HZ.out.later u.is); rwa [decide_eq_true rfl] at this : Calls Try.prog 16 #[.agg #[.slice P2 y.length c2], .agg #[.slice P3 y.length c3]] u.now fun e w' => e = .returned (.bool true) ∧ Below u.now.heap.size u.now w')
    have he2 := fun (u : Aft W.heap.size W) => (by have := implEqualUf_any (.agg #[.slice P2 y.length c2]) (.agg #[.slice P3 y.length c3]) y y u.now (HY.out.later u.is) (HZ.out.later u.is); rwa [decide_eq_true rfl] at this : Calls Try.prog 17 #[.agg #[.slice P2 y.length c2], .agg #[.slice P3 y.length c3]] u.now fun e w' => e = .returned (.bool true) ∧ Below u.now.heap.size u.now w')
    have hv1 := fun (u : Aft W.heap.size W) => implIsValidUf_at x ok hok (.agg #[.slice P x.length cx]) u.now (HX.out.later u.is) hwf
    have hv2 := fun (u : Aft W.heap.size W) => specIsValidUf_at x ok hok (.agg #[.slice P x.length cx]) u.now (HX.out.later u.is) hwf
    have A1 := Aft.cell (B := W.heap.size) (w := W) (by omega) GX.out
    have A2 := Aft.cell (B := W.heap.size) (w := W) (by omega) GY.out
    have A3 := Aft.cell (B := W.heap.size) (w := W) (by omega) GZ.out
    refine wp_region_aft (Below.refl W.heap.size W) (by kernel_rfl) (by kernel_rfl) ?_
    repeat (go_big_quiet_step (fail))
    go_big_quiet_step (((go_at_call 16; exact calls_aft (Nat.le_refl _) (he1 _))))
    repeat (go_big_quiet_step (fail))
    go_big_quiet_step (((go_at_call 17; exact calls_aft (Nat.le_refl _) (he2 _))))
    repeat (go_big_quiet_step (fail))
    go_big_quiet_step (((go_at_call 18; exact calls_aft (Nat.le_refl _) (hv1 _))))
    repeat (go_big_quiet_step (fail))
    go_big_quiet_step (((go_at_call 19; exact calls_aft (Nat.le_refl _) (hv2 _))))
    repeat (go_big_quiet_step (fail))
    refine wpQuiet_nil ?_
    refine aft_end ?_
    intro w5 hb5
    clear A1 A2 A3 he1 he2 hv1 hv2
    have hz5 := hb5.size
    have HX5 := Lib.hid (HX.out.later hb5)
    have HY5 := Lib.hid (HY.out.later hb5)
    have gx := (hb5.cell (p := ⟨g1, 0, none⟩) (by show g1 < _; omega)).trans GX.out
    have gy := (hb5.cell (p := ⟨g2, 0, none⟩) (by show g2 < _; omega)).trans GY.out
    have HW5 := Lib.hid (HW.out.trans (hb5.mono HW.out.size))
    clear hb5
    have hv := specIsValidUf_at x ok hok (.agg #[.slice P x.length cx]) w5 HX5.out hwf
    cases hokc : ok with
    | false =>
      have hyx : y = x := HTWO.out (by
        have h1 : ¬ (cv ≠ 2) := fun h => by have := (HLAW.out h); have h2 := HUOK.out h; unfold uniOk at h2; rw [hok, hokc] at h2; cases h2
        omega)
      rw [hokc] at hv
      have hq := fun (wq : World) (hb : Below w5.heap.size w5 wq) => (by have := specEqualUf_any (.agg #[.slice P2 y.length c2]) (.agg #[.slice P x.length cx]) y x wq (HY5.out.later hb) (HX5.out.later hb); rwa [decide_eq_true hyx] at this : Calls Try.prog 16 #[.agg #[.slice P2 y.length c2], .agg #[.slice P x.length cx]] wq fun e w' => e = .returned (.bool true) ∧ Below wq.heap.size wq w')
      clear hokc hyx
      go_wp2_with fail
      refine hv.mono ?_; rintro e w6 ⟨rfl, hb6⟩
      have hz6 := hb6.size
      have gx := (hb6.cell (p := ⟨g1, 0, none⟩) (by show g1 < _; omega)).trans gx
      have gy := (hb6.cell (p := ⟨g2, 0, none⟩) (by show g2 < _; omega)).trans gy
      replace hq := hq w6 hb6
      have HW6 := Lib.hid (HW5.out.trans (hb6.mono HW5.out.size))
      clear hv hb6
      go_wp2_with (go_at_call 16; refine hq.mono ?_; rintro e w7 ⟨rfl, hb7⟩)
      go_ret
      exact ⟨rfl, HW6.out.trans (hb7.mono HW6.out.size)⟩
    | true =>
      rw [hokc] at hv
      by_cases hc2 : cv = 2
      · have hyx : y = x := HTWO.out hc2
        have hb2 : (cv == 2) = true := by rw [hc2]; rfl
        have hq := fun (wq : World) (hb : Below w5.heap.size w5 wq) => (by have := specEqualUf_any (.agg #[.slice P2 y.length c2]) (.agg #[.slice P x.length cx]) y x wq (HY5.out.later hb) (HX5.out.later hb); rwa [decide_eq_true hyx] at this : Calls Try.prog 16 #[.agg #[.slice P2 y.length c2], .agg #[.slice P x.length cx]] wq fun e w' => e = .returned (.bool true) ∧ Below wq.heap.size wq w')
        clear hokc hyx hc2
        go_wp2_with fail
        refine hv.mono ?_; rintro e w6 ⟨rfl, hb6⟩
        have hz6 := hb6.size
        have gx := (hb6.cell (p := ⟨g1, 0, none⟩) (by show g1 < _; omega)).trans gx
        have gy := (hb6.cell (p := ⟨g2, 0, none⟩) (by show g2 < _; omega)).trans gy
        replace hq := hq w6 hb6
        have HW6 := Lib.hid (HW5.out.trans (hb6.mono HW5.out.size))
        clear hv hb6
        go_wp2_with (go_at_call 16; refine hq.mono ?_; rintro e w7 ⟨rfl, hb7⟩)
        go_ret
        exact ⟨rfl, HW6.out.trans (hb7.mono HW6.out.size)⟩
      · have hb2 : (cv == 2) = false := beq_eq_false_iff_ne.2 hc2
        obtain ⟨l1, l2, l3, l4⟩ := HLAW.out hc2
        have hu := HUOK.out hc2
        have hcu : canU x a = true ∧ canU x b = true := by
          unfold uniOk at hu
          rw [Bool.and_eq_true, Bool.and_eq_true] at hu
          exact hu.2
        have HCU := Lib.hid hcu
        have HL1 := Lib.hid l1
        have HL4 := Lib.hid l4
        obtain ⟨ga, hga⟩ : ∃ z, z = ufFind y a := ⟨_, rfl⟩
        obtain ⟨pa, hpa⟩ : ∃ z, z = ufFind x a := ⟨_, rfl⟩
        obtain ⟨pb, hpb⟩ : ∃ z, z = ufFind x b := ⟨_, rfl⟩
        obtain ⟨e0, he0, he0'⟩ : ∃ e0, (cv == 0) = e0 ∧ (pa == pb) = e0 := by
          rw [← hpa, ← hpb] at l3
          by_cases h0 : cv = 0
          · have : pa = pb := by rw [decide_eq_true h0] at l3; exact of_decide_eq_true l3.symm
            exact ⟨true, by rw [h0]; rfl, by rw [this]; exact beq_self_eq_true pb⟩
          · have : ¬ pa = pb := by rw [decide_eq_false h0] at l3; exact of_decide_eq_false l3.symm
            exact ⟨false, beq_eq_false_iff_ne.2 h0, beq_eq_false_iff_ne.2 this⟩
        have hee : (e0 != e0) = false := by simp
        have hgg : (ga != ga) = false := by simp
        have HGA := Lib.hid hga
        have HPA := Lib.hid hpa
        have hGA : ufFind y b = ga := by rw [hga, l2]
        clear hokc hc2 l1 l3 l4 hu hcu
        go_upto_region 10 with (go_at_call 19; refine hv.mono ?_; rintro e w6 ⟨rfl, hb6⟩; have hz6 := hb6.size; have gx := (hb6.cell (p := ⟨g1, 0, none⟩) (by show g1 < _; omega)).trans gx; have gy := (hb6.cell (p := ⟨g2, 0, none⟩) (by show g2 < _; omega)).trans gy)
        have HX6 := Lib.hid (HX5.out.later hb6)
        have HY6 := Lib.hid (HY5.out.later hb6)
        have HW6 := Lib.hid (HW5.out.trans (hb6.mono HW5.out.size))
        have hgy : ∀ v, -9223372036854775808 ≤ v → v ≤ 9223372036854775807 → ∀ (wq : World), Below w6.heap.size w6 wq → Calls Try.prog 20 #[.agg #[.slice P2 y.length c2], .int .i64 v] wq fun e w' => e = .returned (.int .i64 (ufFind y v)) ∧ Below wq.heap.size wq w' := fun v h0 h1 wq hb => implFind_any (.agg #[.slice P2 y.length c2]) y v wq (HY6.out.later hb) hwy h0 h1
        have hgx : ∀ v, -9223372036854775808 ≤ v → v ≤ 9223372036854775807 → ∀ (wq : World), Below w6.heap.size w6 wq → Calls Try.prog 21 #[.agg #[.slice P x.length cx], .int .i64 v] wq fun e w' => e = .returned (.int .i64 (ufFind x v)) ∧ Below wq.heap.size wq w' := fun v h0 h1 wq hb => specFind_any (.agg #[.slice P x.length cx]) x v wq (HX6.out.later hb) hwf h0 h1
        have HGY := Lib.hid hgy
        have HGX := Lib.hid hgx
        clear hgy hgx hb6 hv
        have A1 := Aft.cell (B := w6.heap.size) (w := w6) (by omega) gx
        have A2 := Aft.cell (B := w6.heap.size) (w := w6) (by omega) gy
        have k1 := fun (u : Aft w6.heap.size w6) => (by have := HGY.out a (by omega) (by omega) u.now u.is; rwa [← hga] at this : Calls Try.prog 20 #[.agg #[.slice P2 y.length c2], .int .i64 a] u.now fun e w' => e = .returned (.int .i64 ga) ∧ Below u.now.heap.size u.now w')
        have k2 := fun (u : Aft w6.heap.size w6) => (by have := HGY.out b (by omega) (by omega) u.now u.is; rwa [hGA] at this : Calls Try.prog 20 #[.agg #[.slice P2 y.length c2], .int .i64 b] u.now fun e w' => e = .returned (.int .i64 ga) ∧ Below u.now.heap.size u.now w')
        have k3 := fun (u : Aft w6.heap.size w6) => implIsValidUf_at y true HL1.out (.agg #[.slice P2 y.length c2]) u.now (HY6.out.later u.is) hwy
        have k4 := fun (u : Aft w6.heap.size w6) => (by have := HGX.out a (by omega) (by omega) u.now u.is; rwa [← hpa] at this : Calls Try.prog 21 #[.agg #[.slice P x.length cx], .int .i64 a] u.now fun e w' => e = .returned (.int .i64 pa) ∧ Below u.now.heap.size u.now w')
        have k5 := fun (u : Aft w6.heap.size w6) => (by have := HGX.out b (by omega) (by omega) u.now u.is; rwa [← hpb] at this : Calls Try.prog 21 #[.agg #[.slice P x.length cx], .int .i64 b] u.now fun e w' => e = .returned (.int .i64 pb) ∧ Below u.now.heap.size u.now w')
        clear hga hpa hpb hGA l2
        refine wp_region_aft (Below.refl w6.heap.size w6) (by kernel_rfl) (by kernel_rfl) ?_
        repeat (go_big_quiet_step (fail))
        go_big_quiet_step (((go_at_call 20; exact calls_aft (Nat.le_refl _) (k1 _))))
        repeat (go_big_quiet_step (fail))
        go_big_quiet_step (((go_at_call 20; exact calls_aft (Nat.le_refl _) (k2 _))))
        repeat (go_big_quiet_step (fail))
        go_big_quiet_step (((go_at_call 18; exact calls_aft (Nat.le_refl _) (k3 _))))
        repeat (go_big_quiet_step (fail))
        go_big_quiet_step (((go_at_call 21; exact calls_aft (Nat.le_refl _) (k4 _))))
        repeat (go_big_quiet_step (fail))
        go_big_quiet_step (((go_at_call 21; exact calls_aft (Nat.le_refl _) (k5 _))))
        repeat (go_big_quiet_step (fail))
        refine wpQuiet_nil ?_
        refine aft_end ?_
        intro w7 hb7
        clear A1 A2 k1 k2 k3 k4 k5
        have hz7 := hb7.size
        have GX7 := Lib.hid ((hb7.cell (p := ⟨g1, 0, none⟩) (by show g1 < _; omega)).trans gx)
        have GY7 := Lib.hid ((hb7.cell (p := ⟨g2, 0, none⟩) (by show g2 < _; omega)).trans gy)
        have HW7 := Lib.hid (HW6.out.trans (hb7.mono HW6.out.size))
        have gx7 := GX7.out
        have HB67 := Lib.hid hb7
        clear gx gy hb7 hee he0 he0' hcc hoo hb2
        go_upto_region 13 with fail
        go_loopw [10] (fun v wr => ∃ k : Nat, k ≤ x.length ∧ v = .int .i64 (-(k : Int)) ∧ Hid (Below w7.heap.size w7 wr)) (fun v _ => (-(intOf v)).toNat)
        case atStart => exact ⟨x.length, Nat.le_refl _, by go_num, Lib.hid (Below.refl _ _)⟩
        case round =>
          clear gx7
          obtain ⟨k, hk, rfl, HC⟩ := hrel
          have hzr := HC.out.size
          have hB6r := HB67.out.trans (HC.out.mono HB67.out.size)
          have gx := (HC.out.cell (p := ⟨g1, 0, none⟩) (by show g1 < _; omega)).trans GX7.out
          have gy := (HC.out.cell (p := ⟨g2, 0, none⟩) (by show g2 < _; omega)).trans GY7.out
          by_cases hk0 : 0 < k
          · obtain ⟨k', rfl⟩ : ∃ k', k = k' + 1 := ⟨k - 1, by omega⟩
            obtain ⟨v, hvq⟩ : ∃ v : Int, v = -((k' + 1 : Nat) : Int) := ⟨_, rfl⟩
            have hdv : decide (v < 0) = true := decide_eq_true (by omega)
            have hcv : canU x v = true := decide_eq_true (by omega)
            obtain ⟨f1, f2⟩ := HL4.out v hcv
            have HV := Lib.hid hvq
            have hvn : v + 1 = -(k' : Int) := by omega
            have HVN := Lib.hid hvn
            have hvb : -7 ≤ v ∧ v ≤ -1 := by omega
            obtain ⟨fv, hfv⟩ : ∃ z, z = ufFind x v := ⟨_, rfl⟩
            obtain ⟨gv, hgv⟩ : ∃ z, z = ufFind y v := ⟨_, rfl⟩
            have k1 := fun (u : Aft wr.heap.size wr) => (by have := HGX.out v (by omega) (by omega) u.now (hB6r.trans (u.is.mono hB6r.size)); rwa [← hfv] at this : Calls Try.prog 21 #[.agg #[.slice P x.length cx], .int .i64 v] u.now fun e w' => e = .returned (.int .i64 fv) ∧ Below u.now.heap.size u.now w')
            have k2 := fun (u : Aft wr.heap.size wr) => (by have := HGX.out a (by omega) (by omega) u.now (hB6r.trans (u.is.mono hB6r.size)); rwa [← HPA.out] at this : Calls Try.prog 21 #[.agg #[.slice P x.length cx], .int .i64 a] u.now fun e w' => e = .returned (.int .i64 pa) ∧ Below u.now.heap.size u.now w')
            have k3 := fun (u : Aft wr.heap.size wr) => (by have := HGY.out v (by omega) (by omega) u.now (hB6r.trans (u.is.mono hB6r.size)); rwa [← hgv] at this : Calls Try.prog 20 #[.agg #[.slice P2 y.length c2], .int .i64 v] u.now fun e w' => e = .returned (.int .i64 gv) ∧ Below u.now.heap.size u.now w')
            have k4 := fun (u : Aft wr.heap.size wr) => (by have := HGY.out a (by omega) (by omega) u.now (hB6r.trans (u.is.mono hB6r.size)); rwa [← HGA.out] at this : Calls Try.prog 20 #[.agg #[.slice P2 y.length c2], .int .i64 a] u.now fun e w' => e = .returned (.int .i64 ga) ∧ Below u.now.heap.size u.now w')
            rw [← hfv, ← HPA.out, ← hgv, ← HGA.out] at f1
            rw [← hfv, ← hgv] at f2
            have A1 := Aft.cell (B := wr.heap.size) (w := wr) (by omega) gx
            have A2 := Aft.cell (B := wr.heap.size) (w := wr) (by omega) gy
            rw [← hvq]
            clear hfv hgv hcv hvn hvq gx gy
            by_cases hA : fv = pa
            · have hbA : (fv == pa) = true := by rw [hA]; exact beq_self_eq_true pa
              have hnA : (gv != ga) = false := by rw [f1 hA]; simp
              by_cases hB : 0 ≤ fv
              · have hbB : decide (0 ≤ fv) = true := decide_eq_true hB
                have hnB : (gv != fv) = false := by rw [f2 hB]; simp
                clear hA hB f1 f2
                go_wp2
                refine wp_region_aft (Below.refl wr.heap.size wr) (by kernel_rfl) (by kernel_rfl) ?_
                repeat (go_big_quiet_step (fail))
                go_big_quiet_step (((go_at_call 21; exact calls_aft (Nat.le_refl _) (k1 _))))
                repeat (go_big_quiet_step (fail))
                go_big_quiet_step (((go_at_call 21; exact calls_aft (Nat.le_refl _) (k2 _))))
                repeat (go_big_quiet_step (fail))
                go_big_quiet_step (((go_at_call 20; exact calls_aft (Nat.le_refl _) (k3 _))))
                repeat (go_big_quiet_step (fail))
                go_big_quiet_step (((go_at_call 20; exact calls_aft (Nat.le_refl _) (k4 _))))
                repeat (go_big_quiet_step (fail))
                go_big_quiet_step (((go_at_call 21; exact calls_aft (Nat.le_refl _) (k1 _))))
                repeat (go_big_quiet_step (fail))
                go_big_quiet_step (((go_at_call 20; exact calls_aft (Nat.le_refl _) (k3 _))))
                repeat (go_big_quiet_step (fail))
                go_big_quiet_step (((go_at_call 21; exact calls_aft (Nat.le_refl _) (k1 _))))
                repeat (go_big_quiet_step (fail))
                refine wpQuiet_nil ?_
                refine aft_end ?_
                intro w8 hh
                clear A1 A2 k1 k2 k3 k4
                go_wp2
                go_roundw
                case rel => exact ⟨k', by omega, by rw [← HVN.out], Lib.hid (HC.out.trans (hh.mono hzr))⟩
                case measure => simp [intOf] <;> omega
              · have hbB : decide (0 ≤ fv) = false := decide_eq_false hB
                clear hA hB f1 f2
                go_wp2
                refine wp_region_aft (Below.refl wr.heap.size wr) (by kernel_rfl) (by kernel_rfl) ?_
                repeat (go_big_quiet_step (fail))
                go_big_quiet_step (((go_at_call 21; exact calls_aft (Nat.le_refl _) (k1 _))))
                repeat (go_big_quiet_step (fail))
                go_big_quiet_step (((go_at_call 21; exact calls_aft (Nat.le_refl _) (k2 _))))
                repeat (go_big_quiet_step (fail))
                go_big_quiet_step (((go_at_call 20; exact calls_aft (Nat.le_refl _) (k3 _))))
                repeat (go_big_quiet_step (fail))
                go_big_quiet_step (((go_at_call 20; exact calls_aft (Nat.le_refl _) (k4 _))))
                repeat (go_big_quiet_step (fail))
                go_big_quiet_step (((go_at_call 21; exact calls_aft (Nat.le_refl _) (k1 _))))
                repeat (go_big_quiet_step (fail))
                refine wpQuiet_nil ?_
                refine aft_end ?_
                intro w8 hh
                clear A1 A2 k1 k2 k3 k4
                go_wp2
                go_roundw
                case rel => exact ⟨k', by omega, by rw [← HVN.out], Lib.hid (HC.out.trans (hh.mono hzr))⟩
                case measure => simp [intOf] <;> omega
            · have hbA : (fv == pa) = false := beq_eq_false_iff_ne.2 hA
              by_cases hB : 0 ≤ fv
              · have hbB : decide (0 ≤ fv) = true := decide_eq_true hB
                have hnB : (gv != fv) = false := by rw [f2 hB]; simp
                clear hA hB f1 f2
                go_wp2
                refine wp_region_aft (Below.refl wr.heap.size wr) (by kernel_rfl) (by kernel_rfl) ?_
                repeat (go_big_quiet_step (fail))
                go_big_quiet_step (((go_at_call 21; exact calls_aft (Nat.le_refl _) (k1 _))))
                repeat (go_big_quiet_step (fail))
                go_big_quiet_step (((go_at_call 21; exact calls_aft (Nat.le_refl _) (k2 _))))
                repeat (go_big_quiet_step (fail))
                go_big_quiet_step (((go_at_call 21; exact calls_aft (Nat.le_refl _) (k1 _))))
                repeat (go_big_quiet_step (fail))
                go_big_quiet_step (((go_at_call 20; exact calls_aft (Nat.le_refl _) (k3 _))))
                repeat (go_big_quiet_step (fail))
                go_big_quiet_step (((go_at_call 21; exact calls_aft (Nat.le_refl _) (k1 _))))
                repeat (go_big_quiet_step (fail))
                refine wpQuiet_nil ?_
                refine aft_end ?_
                intro w8 hh
                clear A1 A2 k1 k2 k3 k4
                go_wp2
                go_roundw
                case rel => exact ⟨k', by omega, by rw [← HVN.out], Lib.hid (HC.out.trans (hh.mono hzr))⟩
                case measure => simp [intOf] <;> omega
              · have hbB : decide (0 ≤ fv) = false := decide_eq_false hB
                clear hA hB f1 f2
                go_wp2
                refine wp_region_aft (Below.refl wr.heap.size wr) (by kernel_rfl) (by kernel_rfl) ?_
                repeat (go_big_quiet_step (fail))
                go_big_quiet_step (((go_at_call 21; exact calls_aft (Nat.le_refl _) (k1 _))))
                repeat (go_big_quiet_step (fail))
                go_big_quiet_step (((go_at_call 21; exact calls_aft (Nat.le_refl _) (k2 _))))
                repeat (go_big_quiet_step (fail))
                go_big_quiet_step (((go_at_call 21; exact calls_aft (Nat.le_refl _) (k1 _))))
                repeat (go_big_quiet_step (fail))
                refine wpQuiet_nil ?_
                refine aft_end ?_
                intro w8 hh
                clear A1 A2 k1 k2 k3 k4
                go_wp2
                go_roundw
                case rel => exact ⟨k', by omega, by rw [← HVN.out], Lib.hid (HC.out.trans (hh.mono hzr))⟩
                case measure => simp [intOf] <;> omega
          · obtain rfl : k = 0 := by omega
            have hd0 : decide (-((0 : Nat) : Int) < 0) = false := rfl
            have hHY := HY6.out.later hB6r
            have hus := implUnionSubstitution_any (.agg #[.slice P2 y.length c2]) y wr hHY hwy
            have hzy := HB67.out.size
            have HWr := Lib.hid (HW7.out.trans (HC.out.mono HW7.out.size))
            obtain ⟨sl1, sl2⟩ := sub_law HL1.out
            have hap := sl2 a (by
              have h1 := HCU.out.1
              unfold canU at h1 ⊢
              have h1 := of_decide_eq_true h1
              exact decide_eq_true (by have := HYL.out; omega))
            rw [← HGA.out] at hap
            have hsw := sub_wf HL1.out
            go_upto_region 18 with (go_at_call 22; refine hus.mono ?_; rintro e w8 ⟨r8, rfl, hO8, hb8⟩; obtain ⟨P7, c7, Q7, e7, rfl⟩ := Substitution_form (hO8.at_ (Nat.le_refl _)))
            clear hus
            obtain ⟨g4, hg4⟩ : ∃ g, g = w8.heap.size := ⟨_, rfl⟩
            obtain ⟨s, hs⟩ : ∃ s, s = UnionSubstitution_r0 y := ⟨_, rfl⟩
            rw [← hs] at hO8 sl1 hap hsw
            obtain ⟨W9, hWq⟩ : ∃ W, W = w8.alloc (.cells #[.slice P7 s.nulls.length c7, .slice Q7 s.vals.length e7] 35) := ⟨_, rfl⟩
            have hAl : Below w8.heap.size w8 W9 := by rw [hWq]; exact (Below.refl _ _).alloc (Nat.le_refl _) _
            have hWz9 : g4 < W9.heap.size := by rw [hWq, hg4]; simp
            have t0 : W9.cell? ⟨g4, 0, none⟩ = some (.slice P7 s.nulls.length c7) := by rw [hWq, hg4]; simp [go_sem]
            have t1 : W9.cell? ⟨g4, 1, none⟩ = some (.slice Q7 s.vals.length e7) := by rw [hWq, hg4]; simp [go_sem]
            rw [← hs, ← hg4, ← hWq]
            have hz8 := hb8.size
            have hb89 : Below wr.heap.size wr W9 := hb8.trans (hAl.mono hz8)
            have hz9 := hb89.size
            have gy9 := (hb89.cell (p := ⟨g2, 0, none⟩) (by show g2 < _; omega)).trans gy
            have HS9 := Lib.hid ((hO8.at_ (Nat.le_refl _)).later hAl)
            have HY9 := Lib.hid (hHY.later hb89)
            have HW9 := Lib.hid (HWr.out.trans (hb89.mono HWr.out.size))
            clear hs hg4 hWq hAl hO8 hb8 hb89 hHY gx gy
            have A1 := Aft.cell (B := W9.heap.size) (w := W9) hWz9 t0
            have A2 := Aft.cell (B := W9.heap.size) (w := W9) hWz9 t1
            have A3 := Aft.cell (B := W9.heap.size) (w := W9) (by omega) gy9
            clear t0 t1 gy9
            have hfl := run_fieldReps
            have hgg2 : (ga == ga) = true := beq_self_eq_true ga
            have hb : Below W9.heap.size W9 W9.drew := (Below.refl _ _).drew
            refine wp_region_planL (C := fun w' => ∃ u : Aft W9.heap.size W9, w' = u.now) (.still 0 (.move true 1 (.still 2 (.still 3 (.still 4 (.move true 5 (.still 6 (.still 7 (.move true 8 (.still 9 (.still 10 (.still 11 (.move true 12 (.still 13 (.move true 14 (.still 15 (.still 16 (.still 17 .done))) .none)) .none)))) .none))) .none)))) .none)) (by kernel_rfl) (by kernel_rfl) (by kernel_rfl) (fun _ => ⟨⟨_, hb⟩, rfl⟩) ?_
            iterate 1
              refine plan_look _ rfl rfl ?_
              go_big_quiet_step (fail)
              refine wpQuiet_nil ?_
            refine plan_call _ 23 _ _ _ _ _ rfl _ Try.func23 (by kernel_rfl) (by kernel_rfl) ?_ True.intro
            show Calls Try.prog 23 #[.agg #[.slice P7 s.nulls.length c7, .slice Q7 s.vals.length e7]] _ _
            refine (specIsValidSub_at s true sl1 _ _ (HS9.out.later hb) hsw).mono ?_
            rintro _ wn ⟨rfl, hbn⟩
            replace hb := hb.trans (hbn.mono hb.size)
            clear hbn
            refine ⟨_, rfl, fun _ => ⟨⟨_, hb⟩, rfl⟩, ?_⟩
            refine plan_put ?_ (by simp only [Act.put, List.setIfInBounds_toArray, List.set_cons_succ, List.set_cons_zero]; rfl)
            iterate 3
              refine plan_look _ rfl rfl ?_
              go_big_quiet_step (fail)
              refine wpQuiet_nil ?_
            refine plan_callG _ 24 _ _ _ _ _ _ rfl rfl _ Try.func24 (by kernel_rfl) (by kernel_rfl) ?_ True.intro
            show Calls Try.prog 24 #[.agg #[.slice P7 s.nulls.length c7, .slice Q7 s.vals.length e7], .int .i64 a] _ _
            have kc := implApplyToValue_any _ s a _ (HS9.out.later hb) hsw (by omega) (by omega)
            rw [hap] at kc
            refine kc.mono ?_
            clear kc
            rintro _ wn ⟨rfl, hbn⟩
            replace hb := hb.trans (hbn.mono hb.size)
            clear hbn
            refine ⟨_, rfl, fun _ => ⟨⟨_, hb⟩, rfl⟩, ?_⟩
            refine plan_put ?_ (by simp only [Act.put, List.setIfInBounds_toArray, List.set_cons_succ, List.set_cons_zero]; rfl)
            iterate 2
              refine plan_look _ rfl rfl ?_
              go_big_quiet_step (fail)
              refine wpQuiet_nil ?_
            refine plan_callG _ 20 _ _ _ _ _ _ rfl rfl _ Try.func20 (by kernel_rfl) (by kernel_rfl) ?_ True.intro
            show Calls Try.prog 20 #[.agg #[.slice P2 y.length c2], .int .i64 a] _ _
            have kc := implFind_any _ y a _ (HY9.out.later hb) hwy (by omega) (by omega)
            rw [← HGA.out] at kc
            refine kc.mono ?_
            clear kc
            rintro _ wn ⟨rfl, hbn⟩
            replace hb := hb.trans (hbn.mono hb.size)
            clear hbn
            refine ⟨_, rfl, fun _ => ⟨⟨_, hb⟩, rfl⟩, ?_⟩
            refine plan_put ?_ (by simp only [Act.put, List.setIfInBounds_toArray, List.set_cons_succ, List.set_cons_zero]; rfl)
            iterate 3
              refine plan_look _ rfl rfl ?_
              go_big_quiet_step (fail)
              refine wpQuiet_nil ?_
            refine plan_callG _ 25 _ _ _ _ _ _ rfl rfl _ Try.func25 (by kernel_rfl) (by kernel_rfl) ?_ True.intro
            show Calls Try.prog 25 #[.int .i64 3] _ _
            refine (implNewUf_any 3 _ (by omega) (by omega)).mono ?_
            rintro _ wn ⟨r9, rfl, hO9, hbn⟩
            obtain ⟨P9, c9, rfl⟩ := UnionFind_form (hO9.at_ (Nat.le_refl _))
            rw [show (NewUnionFind_r0 3).length = 3 from rfl]
            replace hb := hb.trans (hbn.mono hb.size)
            clear hbn hO9
            refine ⟨_, rfl, fun _ => ⟨⟨_, hb⟩, rfl⟩, ?_⟩
            refine plan_put ?_ (by simp only [Act.put, List.setIfInBounds_toArray, List.set_cons_succ, List.set_cons_zero]; rfl)
            iterate 1
              refine plan_look _ rfl rfl ?_
              go_big_quiet_step (fail)
              refine wpQuiet_nil ?_
            refine plan_value (u := .int .i64 3) (w' := wn) _ rfl rfl rfl (by simp [go_sem]) (fun _ => ⟨⟨_, hb⟩, rfl⟩) ?_ True.intro
            refine plan_put ?_ (by simp only [Act.put, List.setIfInBounds_toArray, List.set_cons_succ, List.set_cons_zero]; rfl)
            iterate 3
              refine plan_look _ rfl rfl ?_
              go_big_quiet_step (fail)
              refine wpQuiet_nil ?_
            refine plan_done ?_
            go_wp2
            go_ret
            exact ⟨rfl, HW9.out.trans (hb.mono HW9.out.size)⟩

end Go.Proofs.Ytalijnfbopcmeaa
