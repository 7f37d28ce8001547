/-
  Walks and plain lemmas for the laws of this seat: what single Go functions return, for every argument.
-/
import Derived.Deep.Quiet
import Derived.Test.YtchlelkhpahakaaAft
import Derived.Test.YtchlelkhpahakaaTyInst
import Derived.Test.YtchlelkhpahakaaFactI
import Derived.Test.YtchlelkhpahakaaMInst
import Derived.Test.YtchlelkhpahakaaFactV
import Derived.Test.YtchlelkhpahakaaValInI
import Derived.Test.YtchlelkhpahakaaSubI
import Derived.Test.YtchlelkhpahakaaConI
import Derived.Test.YtchlelkhpahakaaInstI2
import Derived.Test.YtchlelkhpahakaaInsI
import Derived.Test.YtchlelkhpahakaaInstD
import Derived.Test.YtchlelkhpahakaaDelI
import Derived.Test.YtchlelkhpahakaaDraw
import Derived.Test.YtchlelkhpahakaaLift
import Derived.Test.YtchlelkhpahakaaDrawL
import Derived.Test.YtchlelkhpahakaaDrawM
import Derived.Test.YtchlelkhpahakaaInstEqS
namespace Go.Proofs.Ytchlelkhpahakaa
open Go.RowKit

theorem eqInst_self (x : Inst) : eqInst x x = true := by unfold eqInst; simp
theorem insInst_small {x : Inst} {f : Fct} (h : InstSmall 9 x) (hf : FctSmall f) : InstSmall 10 (insInst x f) := by
  unfold insInst
  split
  · exact h.put hf
  · exact h.more (by decide)
theorem delInst_small {n : Nat} {x : Inst} {f : Fct} (h : InstSmall n x) : InstSmall n (delInst x f) := by
  unfold delInst
  split
  · refine ⟨h.1, ?_, fun g hg => h.2.2 g ?_⟩
    · have := h.2.1
      show (x.facts.take (placeF f x.facts).toNat ++ x.facts.drop ((placeF f x.facts).toNat + 1)).length ≤ n
      simp; omega
    · rcases List.mem_append.1 hg with hg | hg
      · exact List.mem_of_mem_take hg
      · exact List.mem_of_mem_drop hg
  · exact h
theorem cmpInts_three (a b : List Int) : cmpInts a b = -1 ∨ cmpInts a b = 0 ∨ cmpInts a b = 1 := by
  induction a generalizing b with
  | nil => cases b <;> simp [cmpInts]
  | cons x t ih =>
    cases b with
    | nil => simp [cmpInts]
    | cons y s =>
      unfold cmpInts
      split
      · simp
      · split
        · simp
        · exact ih s
theorem cmpF_three (a b : Fct) : cmpF a b = -1 ∨ cmpF a b = 0 ∨ cmpF a b = 1 := by
  unfold cmpF cmpFact
  split
  · simp
  · split
    · simp
    · exact cmpInts_three _ _
theorem implCompareFacts_at3 (a b : Fct) (q : Int) (hq : cmpF a b = q) (v u : Value) (w : World) (h : Fact_at w w.heap.size v a) (h' : Fact_at w w.heap.size u b) :
    Calls Try.prog 38 #[v, u] w fun e w' => e = .returned (.int .i64 q) ∧ Below w.heap.size w w' := by
  subst hq
  obtain ⟨V, rfl, h⟩ := h
  obtain ⟨U, rfl, h'⟩ := h'
  exact implCompareFacts_any _ _ _ _ _ _ _ h h'
theorem specCompareFacts_at3 (a b : Fct) (q : Int) (hq : cmpF a b = q) (v u : Value) (w : World) (h : Fact_at w w.heap.size v a) (h' : Fact_at w w.heap.size u b) :
    Calls Try.prog 39 #[v, u] w fun e w' => e = .returned (.int .i64 q) ∧ Below w.heap.size w w' := specCompareFacts_at a b q hq v u w h h'
theorem specEqualInstances_at3 (x y : Inst) (q : Bool) (hq : eqInst x y = q) (v u : Value) (w : World) (h : Instance_at w w.heap.size v x) (h' : Instance_at w w.heap.size u y) :
    Calls Try.prog 37 #[v, u] w fun e w' => e = .returned (.bool q) ∧ Below w.heap.size w w' := by
  subst hq; exact specEqualInstances_any v u x y w h h'
theorem implIsSubset_at3 (x y : Inst) (q : Bool) (hq : subInst x y = q) (v u : Value) (w : World) (h : Instance_at w w.heap.size v x) (h' : Instance_at w w.heap.size u y) :
    Calls Try.prog 40 #[v, u] w fun e w' => e = .returned (.bool q) ∧ Below w.heap.size w w' := by
  subst hq; exact implIsSubset_any v u x y w h h'
set_option maxHeartbeats 12800000 in
set_option maxRecDepth 100000 in
theorem walkID (q : Option Addr) (code : List UInt8) (c : Nat) (_ : code.length ≤ maxLen) (w : World) (hc : CodeAt w w.heap.size (.slice q code.length c) code) :
    Calls Try.prog 9 #[.slice q code.length c] w fun e w' => e = .returned (.bool true) ∧ Below w.heap.size w w' := by
  by_cases hbig : 1048576 < code.length
  · have hd : decide (1048576 < ((code.length : Nat) : Int)) = true := by simp; omega
    go_enter Try.func9, Try.ntmps9
    go_wp2_with fail
    refine (big_any q _ c _).mono ?_; rintro e w1 ⟨rfl, rfl⟩
    go_wp2_with fail
    go_ret
    exact ⟨rfl, Below.refl _ _⟩
  · have hlen : code.length ≤ 1048576 := by omega
    have hd : decide (1048576 < ((code.length : Nat) : Int)) = false := by simp; omega
    clear hbig
    go_enter Try.func9, Try.ntmps9
    go_wp2_with fail
    refine (big_any q _ c _).mono ?_; rintro e w1 ⟨rfl, rfl⟩
    go_wp2_with fail
    refine (drawInsert_c _ code _ hc hlen).mono ?_; rintro e w1 ⟨V, x, U, f, rfl, hlo, hs, hU, -, hf, hb1⟩
    have HX := Lib.hid hlo.at_
    obtain ⟨P, cP, Q, d, rfl⟩ := Instance_form hlo.at_
    obtain ⟨PU, cU, rfl, -⟩ := id hU
    have HF := Lib.hid (show Fact_at w1 w1.heap.size (.agg #[.int .i64 f.rel, .slice PU f.vals.length cU]) f from ⟨_, rfl, hU⟩)
    have HS := Lib.hid hs
    have HFS := Lib.hid hf
    have HW := Lib.hid hb1
    have hfl := hf.2.1
    clear hlo hU hs hf hd hb1
    go_wp2_with fail
    obtain ⟨b3, hb3⟩ : ∃ b, b = w1.heap.size := ⟨_, rfl⟩
    obtain ⟨W1, hW1⟩ : ∃ W, W = (w1.alloc (.cells #[.slice P x.rels.length cP, .slice Q x.facts.length d] 43)).alloc (.cells #[.int .i64 f.rel, .slice PU f.vals.length cU] 31) := ⟨_, rfl⟩
    have X0 := Lib.hid (show W1.cell? ⟨b3, 0, none⟩ = some (.slice P x.rels.length cP) by rw [hW1, hb3]; simp [go_sem])
    have X1 := Lib.hid (show W1.cell? ⟨b3, 1, none⟩ = some (.slice Q x.facts.length d) by rw [hW1, hb3]; simp [go_sem])
    have F0 := Lib.hid (show W1.cell? ⟨b3 + 1, 0, none⟩ = some (.int .i64 f.rel) by rw [hW1, hb3]; simp [go_sem])
    have F1 := Lib.hid (show W1.cell? ⟨b3 + 1, 1, none⟩ = some (.slice PU f.vals.length cU) by rw [hW1, hb3]; simp [go_sem])
    have hE1 : Below w1.heap.size w1 W1 := by rw [hW1]; exact below_more (below_more (Below.refl _ _) _) _
    have hz1 : b3 + 1 < W1.heap.size := by rw [hW1, hb3]; simp
    rw [← hb3, ← hW1]
    have HX := Lib.hid (HX.out.later hE1)
    have HF := Lib.hid (HF.out.later hE1)
    have HW := Lib.hid (HW.out.trans (hE1.mono HW.out.size))
    clear hE1 hW1 hb3
    obtain ⟨ok, hok⟩ : ∃ ok, InsertFact_ok x f = ok := ⟨_, rfl⟩
    obtain ⟨y, hy⟩ : ∃ y, InsertFact_r0 x f = y := ⟨_, rfl⟩
    have hcon := implInsertFact_c _ x _ f W1 HX.out HS.out.wf (by have := HS.out.sz (by decide); omega) HF.out HFS.out.wf (by unfold Fact_sz; omega)
    rw [hok, hy] at hcon
    have hYS : InstSmall 10 y := hy ▸ insInst_small (f := f) HS.out HFS.out
    have HYS := Lib.hid hYS
    have HOK := Lib.hid hok
    have HYE := Lib.hid hy
    clear hYS hok hy
    refine hcon.mono ?_
    rintro e w2 ⟨r2, rfl, hO2, -, hb2⟩
    obtain ⟨P2, c2, Q2, d2, rfl⟩ := Instance_form (hO2.at_ (Nat.le_refl _))
    have HO2 := Lib.hid (hO2.at_ (Nat.le_refl _))
    have hz2 := hb2.size
    clear hO2
    go_upto_region 5 with fail
    obtain ⟨b5, hb5⟩ : ∃ b, b = w2.heap.size := ⟨_, rfl⟩
    obtain ⟨W2, hW2⟩ : ∃ W, W = w2.alloc (.cells #[.slice P2 y.rels.length c2, .slice Q2 y.facts.length d2] 43) := ⟨_, rfl⟩
    have Y0 := Lib.hid (show W2.cell? ⟨b5, 0, none⟩ = some (.slice P2 y.rels.length c2) by rw [hW2, hb5]; simp [go_sem])
    have Y1 := Lib.hid (show W2.cell? ⟨b5, 1, none⟩ = some (.slice Q2 y.facts.length d2) by rw [hW2, hb5]; simp [go_sem])
    have hE2 : Below w2.heap.size w2 W2 := by rw [hW2]; exact below_more (Below.refl _ _) _
    have hz2' : b5 < W2.heap.size := by rw [hW2, hb5]; simp
    have hL2 : W1.heap.size ≤ b5 := by omega
    rw [← hb5, ← hW2]
    have h12 : Below W1.heap.size W1 W2 := hb2.trans (hE2.mono hz2)
    have HY := Lib.hid (HO2.out.later hE2)
    have H12 := Lib.hid h12
    have x0 := (h12.cell (p := ⟨b3, 0, none⟩) (by show b3 < _; omega)).trans X0.out
    have x1 := (h12.cell (p := ⟨b3, 1, none⟩) (by show b3 < _; omega)).trans X1.out
    have f0 := (h12.cell (p := ⟨b3 + 1, 0, none⟩) (by show b3 + 1 < _; omega)).trans F0.out
    have f1 := (h12.cell (p := ⟨b3 + 1, 1, none⟩) (by show b3 + 1 < _; omega)).trans F1.out
    clear hE2 hW2 hb5 hb2 hz2 h12 HO2 hcon
    have hcon := specInsertFact_o _ x _ f W2 (HX.out.later H12.out) HS.out.wf (by have := HS.out.sz (by decide); omega) (HF.out.later H12.out) HFS.out.wf (by unfold Fact_sz; omega)
    rw [HOK.out, HYE.out] at hcon
    go_wp2_with fail
    refine hcon.mono ?_
    rintro e w3 ⟨r3, rfl, hO3, hb3⟩
    obtain ⟨P3, c3, Q3, d3, rfl⟩ := Instance_form (hO3.at_ (Nat.le_refl _))
    have hz3 := hb3.size
    clear hO3 x0 x1 f0 f1
    go_upto_region 6 with fail
    obtain ⟨W3, hW3⟩ : ∃ W, W = w3.alloc (.cells #[.slice P3 y.rels.length c3, .slice Q3 y.facts.length d3] 43) := ⟨_, rfl⟩
    have hE3 : Below w3.heap.size w3 W3 := by rw [hW3]; exact below_more (Below.refl _ _) _
    rw [← hW3]
    have H23 := Lib.hid (hb3.trans (hE3.mono hz3))
    clear hE3 hW3 hb3 hz3 hcon
    have hwc := HW.out.trans ((H12.out.trans (H23.out.mono H12.out.size)).mono HW.out.size)
    go_wp2_with fail
    refine (drawCompare_c _ code W3 (hc.later hwc) hlen).mono ?_
    rintro e w4 ⟨Ua, a, Ub, b, rfl, hOa, hOb, ha, hbs, hb4⟩
    clear hwc
    have HA := Lib.hid (show Fact_at w4 w4.heap.size (.agg #[.int .i64 a.rel, Ua]) a from ⟨_, rfl, hOa.at_⟩)
    have HB := Lib.hid (show Fact_at w4 w4.heap.size (.agg #[.int .i64 b.rel, Ub]) b from ⟨_, rfl, hOb.at_⟩)
    obtain ⟨PA, cA, rfl, -⟩ := hOa.at_
    obtain ⟨PB, cB, rfl, -⟩ := hOb.at_
    have hz4 := hb4.size
    clear hOa hOb ha hbs
    go_upto_region 7 with fail
    obtain ⟨b9, hb9⟩ : ∃ b, b = w4.heap.size := ⟨_, rfl⟩
    obtain ⟨W4, hW4⟩ : ∃ W, W = (w4.alloc (.cells #[.int .i64 a.rel, .slice PA a.vals.length cA] 31)).alloc (.cells #[.int .i64 b.rel, .slice PB b.vals.length cB] 31) := ⟨_, rfl⟩
    have A0 := Lib.hid (show W4.cell? ⟨b9, 0, none⟩ = some (.int .i64 a.rel) by rw [hW4, hb9]; simp [go_sem])
    have A1 := Lib.hid (show W4.cell? ⟨b9, 1, none⟩ = some (.slice PA a.vals.length cA) by rw [hW4, hb9]; simp [go_sem])
    have B0 := Lib.hid (show W4.cell? ⟨b9 + 1, 0, none⟩ = some (.int .i64 b.rel) by rw [hW4, hb9]; simp [go_sem])
    have B1 := Lib.hid (show W4.cell? ⟨b9 + 1, 1, none⟩ = some (.slice PB b.vals.length cB) by rw [hW4, hb9]; simp [go_sem])
    have hE4 : Below w4.heap.size w4 W4 := by rw [hW4]; exact below_more (below_more (Below.refl _ _) _) _
    have hz4' : b9 + 1 < W4.heap.size := by rw [hW4, hb9]; simp
    rw [← hb9, ← hW4]
    have HA := Lib.hid (HA.out.later hE4)
    have HB := Lib.hid (HB.out.later hE4)
    have H24 := Lib.hid (H23.out.trans ((hb4.trans (hE4.mono hz4)).mono H23.out.size))
    have H14 := Lib.hid (H12.out.trans (H24.out.mono H12.out.size))
    have HW4 := Lib.hid (HW.out.trans (H14.out.mono HW.out.size))
    have HX4 := Lib.hid (HX.out.later H14.out)
    have HF4 := Lib.hid (HF.out.later H14.out)
    have HY4 := Lib.hid (HY.out.later H24.out)
    have X0 := Lib.hid ((H14.out.cell (p := ⟨b3, 0, none⟩) (by show b3 < _; omega)).trans X0.out)
    have X1 := Lib.hid ((H14.out.cell (p := ⟨b3, 1, none⟩) (by show b3 < _; omega)).trans X1.out)
    have F0 := Lib.hid ((H14.out.cell (p := ⟨b3 + 1, 0, none⟩) (by show b3 + 1 < _; omega)).trans F0.out)
    have F1 := Lib.hid ((H14.out.cell (p := ⟨b3 + 1, 1, none⟩) (by show b3 + 1 < _; omega)).trans F1.out)
    have Y0 := Lib.hid ((H24.out.cell (p := ⟨b5, 0, none⟩) (by show b5 < _; omega)).trans Y0.out)
    have Y1 := Lib.hid ((H24.out.cell (p := ⟨b5, 1, none⟩) (by show b5 < _; omega)).trans Y1.out)
    have hz14 := H14.out.size
    have hz24 := H24.out.size
    clear hE4 hW4 hb9 hb4 hz4 H12 H23 H24 HX HF HY HW H14
    have hIab := fun (r : Int) (hr : cmpF a b = r) (u : Aft W4.heap.size W4) => implCompareFacts_at3 a b r hr _ _ u.now (HA.out.later u.is) (HB.out.later u.is)
    have hSab := fun (r : Int) (hr : cmpF a b = r) (u : Aft W4.heap.size W4) => specCompareFacts_at3 a b r hr _ _ u.now (HA.out.later u.is) (HB.out.later u.is)
    have hIba := fun (r : Int) (hr : cmpF b a = r) (u : Aft W4.heap.size W4) => implCompareFacts_at3 b a r hr _ _ u.now (HB.out.later u.is) (HA.out.later u.is)
    have hEyx := fun (r : Bool) (hr : eqInst y x = r) (u : Aft W4.heap.size W4) => specEqualInstances_at3 y x r hr _ _ u.now (HY4.out.later u.is) (HX4.out.later u.is)
    have GX0 := Aft.cell (B := W4.heap.size) (w := W4) (show b3 < _ by omega) X0.out
    have GX1 := Aft.cell (B := W4.heap.size) (w := W4) (show b3 < _ by omega) X1.out
    have GY0 := Aft.cell (B := W4.heap.size) (w := W4) (show b5 < _ by omega) Y0.out
    have GY1 := Aft.cell (B := W4.heap.size) (w := W4) (show b5 < _ by omega) Y1.out
    have GA0 := Aft.cell (B := W4.heap.size) (w := W4) (show b9 < _ by omega) A0.out
    have GA1 := Aft.cell (B := W4.heap.size) (w := W4) (show b9 < _ by omega) A1.out
    have GB0 := Aft.cell (B := W4.heap.size) (w := W4) (show b9 + 1 < _ by omega) B0.out
    have GB1 := Aft.cell (B := W4.heap.size) (w := W4) (show b9 + 1 < _ by omega) B1.out
    obtain ⟨r, hr⟩ : ∃ r, cmpF a b = r := ⟨_, rfl⟩
    have hrb : cmpF b a = -r := by have := cmpF_anti b a; rw [hr] at this; exact this
    have hr3 := cmpF_three a b
    rw [hr] at hr3
    replace hIab := hIab r hr
    replace hSab := hSab r hr
    replace hIba := hIba (-r) hrb
    clear hr hrb
    have hr1 : -1 ≤ r ∧ r ≤ 1 := by omega
    clear hr3 hlen
    cases ok with
    | false =>
      have hyx : y = x := by
        rw [← HYE.out]
        show insInst x f = x
        unfold insInst
        rw [if_neg (by have : insOk x f = false := HOK.out; rw [this]; simp)]
      replace hEyx := hEyx true (by rw [hyx]; exact eqInst_self x)
      clear hyx
      refine wp_region_aft (Below.refl W4.heap.size W4) (by kernel_rfl) (by kernel_rfl) ?_
      iterate 28 (go_big_quiet_step (first | (go_at_call 38; exact calls_aft (Nat.le_refl _) (hIab _)) | (go_at_call 39; exact calls_aft (Nat.le_refl _) (hSab _)) | (go_at_call 37; exact calls_aft (Nat.le_refl _) (hEyx _))))
      go_big_quiet_step ((go_at_call 38; exact calls_aft (Nat.le_refl _) (hIba _)))
      iterate 3 (go_big_quiet_step (fail))
      refine wpQuiet_nil ?_
      refine aft_end ?_
      intro w5 hh
      clear hIab hSab hIba hEyx GX0 GX1 GY0 GY1 GA0 GA1 GB0 GB1
      have hzh := hh.size
      have x0 := (hh.cell (p := ⟨b3, 0, none⟩) (by show b3 < _; omega)).trans X0.out
      have x1 := (hh.cell (p := ⟨b3, 1, none⟩) (by show b3 < _; omega)).trans X1.out
      have f0 := (hh.cell (p := ⟨b3 + 1, 0, none⟩) (by show b3 + 1 < _; omega)).trans F0.out
      have f1 := (hh.cell (p := ⟨b3 + 1, 1, none⟩) (by show b3 + 1 < _; omega)).trans F1.out
      obtain ⟨gone, hg⟩ : ∃ g, DeleteFact_ok x f = g := ⟨_, rfl⟩
      obtain ⟨z, hz⟩ : ∃ z, DeleteFact_r0 x f = z := ⟨_, rfl⟩
      have hzs : InstSmall 9 z := hz ▸ delInst_small (f := f) HS.out
      have hcon := implDeleteFact_c _ x _ f w5 (HX4.out.later hh) HS.out.wf (by have := HS.out.sz (by decide); omega) (HF4.out.later hh) HFS.out.wf (by unfold Fact_sz; omega)
      rw [hg, hz] at hcon
      have HG := Lib.hid hg
      have HZ := Lib.hid hz
      have HZS := Lib.hid hzs
      have H45 := Lib.hid hh
      clear hg hz hzs hh
      go_wp2_with fail
      refine hcon.mono ?_
      rintro e w6 ⟨r6, rfl, hO6, -, hb6⟩
      obtain ⟨P6, c6, Q6, d6, rfl⟩ := Instance_form (hO6.at_ (Nat.le_refl _))
      have HO6 := Lib.hid (hO6.at_ (Nat.le_refl _))
      have hz6 := hb6.size
      clear hO6 hcon x0 x1 f0 f1
      go_upto_region 11 with fail
      obtain ⟨b11, hb11⟩ : ∃ b, b = w6.heap.size := ⟨_, rfl⟩
      obtain ⟨W6, hW6⟩ : ∃ W, W = w6.alloc (.cells #[.slice P6 z.rels.length c6, .slice Q6 z.facts.length d6] 43) := ⟨_, rfl⟩
      have Z0 := Lib.hid (show W6.cell? ⟨b11, 0, none⟩ = some (.slice P6 z.rels.length c6) by rw [hW6, hb11]; simp [go_sem])
      have Z1 := Lib.hid (show W6.cell? ⟨b11, 1, none⟩ = some (.slice Q6 z.facts.length d6) by rw [hW6, hb11]; simp [go_sem])
      have hE6 : Below w6.heap.size w6 W6 := by rw [hW6]; exact below_more (Below.refl _ _) _
      have hz6' : b11 < W6.heap.size := by rw [hW6, hb11]; simp
      rw [← hb11, ← hW6]
      have h46 : Below W4.heap.size W4 W6 := H45.out.trans ((hb6.trans (hE6.mono hz6)).mono H45.out.size)
      have HZ6 := Lib.hid (HO6.out.later hE6)
      have H46 := Lib.hid h46
      have x0 := (h46.cell (p := ⟨b3, 0, none⟩) (by show b3 < _; omega)).trans X0.out
      have x1 := (h46.cell (p := ⟨b3, 1, none⟩) (by show b3 < _; omega)).trans X1.out
      have f0 := (h46.cell (p := ⟨b3 + 1, 0, none⟩) (by show b3 + 1 < _; omega)).trans F0.out
      have f1 := (h46.cell (p := ⟨b3 + 1, 1, none⟩) (by show b3 + 1 < _; omega)).trans F1.out
      have hz46 := h46.size
      clear hE6 hW6 hb11 hb6 h46 HO6
      have hcon := specDeleteFact_o _ x _ f W6 (HX4.out.later H46.out) HS.out.wf (by have := HS.out.sz (by decide); omega) (HF4.out.later H46.out) HFS.out.wf (by unfold Fact_sz; omega)
      rw [HG.out, HZ.out] at hcon
      go_wp2_with fail
      refine hcon.mono ?_
      rintro e w7 ⟨r7, rfl, hO7, hb7⟩
      obtain ⟨P7, c7, Q7, d7, rfl⟩ := Instance_form (hO7.at_ (Nat.le_refl _))
      have hz7 := hb7.size
      clear hO7 hcon x0 x1 f0 f1
      go_upto_region 12 with fail
      obtain ⟨W7, hW7⟩ : ∃ W, W = w7.alloc (.cells #[.slice P7 z.rels.length c7, .slice Q7 z.facts.length d7] 43) := ⟨_, rfl⟩
      have hE7 : Below w7.heap.size w7 W7 := by rw [hW7]; exact below_more (Below.refl _ _) _
      rw [← hW7]
      have h67 : Below W6.heap.size W6 W7 := hb7.trans (hE7.mono hz7)
      have h47 := H46.out.trans (h67.mono H46.out.size)
      have H47 := Lib.hid h47
      have H67 := Lib.hid h67
      have f0 := (h47.cell (p := ⟨b3 + 1, 0, none⟩) (by show b3 + 1 < _; omega)).trans F0.out
      have f1 := (h47.cell (p := ⟨b3 + 1, 1, none⟩) (by show b3 + 1 < _; omega)).trans F1.out
      have z0 := (h67.cell (p := ⟨b11, 0, none⟩) (by show b11 < _; omega)).trans Z0.out
      have z1 := (h67.cell (p := ⟨b11, 1, none⟩) (by show b11 < _; omega)).trans Z1.out
      have hz47 := h47.size
      clear hE7 hW7 hb7 h67 h47
      obtain ⟨back, hbk⟩ : ∃ g, InsertFact_ok z f = g := ⟨_, rfl⟩
      obtain ⟨v, hv⟩ : ∃ v, InsertFact_r0 z f = v := ⟨_, rfl⟩
      have hcon := implInsertFact_c _ z _ f W7 (HZ6.out.later H67.out) HZS.out.wf (by have := HZS.out.sz (by decide); omega) (HF4.out.later H47.out) HFS.out.wf (by unfold Fact_sz; omega)
      rw [hbk, hv] at hcon
      have HBK := Lib.hid hbk
      have HV := Lib.hid hv
      clear hbk hv
      go_wp2_with fail
      refine hcon.mono ?_
      rintro e w8 ⟨r8, rfl, hO8, -, hb8⟩
      obtain ⟨P8, c8, Q8, d8, rfl⟩ := Instance_form (hO8.at_ (Nat.le_refl _))
      have HO8 := Lib.hid (hO8.at_ (Nat.le_refl _))
      have hz8 := hb8.size
      clear hO8 hcon f0 f1 z0 z1
      go_upto_region 13 with fail
      obtain ⟨b15, hb15⟩ : ∃ b, b = w8.heap.size := ⟨_, rfl⟩
      obtain ⟨W8, hW8⟩ : ∃ W, W = w8.alloc (.cells #[.slice P8 v.rels.length c8, .slice Q8 v.facts.length d8] 43) := ⟨_, rfl⟩
      have v0 : W8.cell? ⟨b15, 0, none⟩ = some (.slice P8 v.rels.length c8) := by rw [hW8, hb15]; simp [go_sem]
      have v1 : W8.cell? ⟨b15, 1, none⟩ = some (.slice Q8 v.facts.length d8) := by rw [hW8, hb15]; simp [go_sem]
      have hE8 : Below w8.heap.size w8 W8 := by rw [hW8]; exact below_more (Below.refl _ _) _
      have h48 : Below W4.heap.size W4 W8 := H47.out.trans ((hb8.trans (hE8.mono hz8)).mono H47.out.size)
      have HV8 := Lib.hid (HO8.out.later hE8)
      have H48 := Lib.hid h48
      have x0 := (h48.cell (p := ⟨b3, 0, none⟩) (by show b3 < _; omega)).trans X0.out
      have x1 := (h48.cell (p := ⟨b3, 1, none⟩) (by show b3 < _; omega)).trans X1.out
      try rw [← hb15, ← hW8]
      clear hE8 hW8 hb15 hb8 h48 HO8
      have HEND := Lib.hid (HW4.out.trans (H48.out.mono HW4.out.size))
      cases gone with
      | false =>
        go_wp2
        go_ret
        exact ⟨rfl, HEND.out⟩
      | true =>
        have hback := ins_back (x := x) (f := f) HG.out
        have hzz : delInst x f = z := HZ.out
        rw [hzz] at hback
        have hb1 : back = true := by rw [← HBK.out]; exact hback.1
        have hv1 : v = x := by rw [← HV.out]; exact hback.2
        subst hb1
        have hev := specEqualInstances_at3 v x true (by rw [hv1]; exact eqInst_self x) _ _ W8 HV8.out (HX4.out.later H48.out)
        clear hback hzz hv1
        go_wp2_with fail
        refine hev.mono ?_
        rintro e w9 ⟨rfl, hb9⟩
        go_wp2
        go_ret
        exact ⟨rfl, HEND.out.trans (hb9.mono HEND.out.size)⟩
    | true =>
      have hins := ins_yes (x := x) (f := f) HOK.out
      have hyy : insInst x f = y := HYE.out
      rw [hyy] at hins
      obtain ⟨-, i1, i2, i3, i4, i5⟩ := hins
      have HI := Lib.hid (And.intro i1 (And.intro i2 (And.intro i3 (And.intro i4 i5))))
      clear hyy i1 i2 i3 i4 i5
      clear hEyx
      have hEyx : True := trivial
      refine wp_region_aft (Below.refl W4.heap.size W4) (by kernel_rfl) (by kernel_rfl) ?_
      iterate 28 (go_big_quiet_step (first | (go_at_call 38; exact calls_aft (Nat.le_refl _) (hIab _)) | (go_at_call 39; exact calls_aft (Nat.le_refl _) (hSab _))))
      go_big_quiet_step ((go_at_call 38; exact calls_aft (Nat.le_refl _) (hIba _)))
      iterate 3 (go_big_quiet_step (fail))
      refine wpQuiet_nil ?_
      refine aft_end ?_
      intro w5 hh
      clear hIab hSab hIba hEyx GX0 GX1 GY0 GY1 GA0 GA1 GB0 GB1
      have hzh := hh.size
      have y0 := (hh.cell (p := ⟨b5, 0, none⟩) (by show b5 < _; omega)).trans Y0.out
      have y1 := (hh.cell (p := ⟨b5, 1, none⟩) (by show b5 < _; omega)).trans Y1.out
      have f0 := (hh.cell (p := ⟨b3 + 1, 0, none⟩) (by show b3 + 1 < _; omega)).trans F0.out
      have f1 := (hh.cell (p := ⟨b3 + 1, 1, none⟩) (by show b3 + 1 < _; omega)).trans F1.out
      obtain ⟨z, hz⟩ : ∃ z, DeleteFact_r0 y f = z := ⟨_, rfl⟩
      have hcon := implDeleteFact_c _ y _ f w5 (HY4.out.later hh) HYS.out.wf (by have := HYS.out.sz (by decide); omega) (HF4.out.later hh) HFS.out.wf (by unfold Fact_sz; omega)
      rw [show DeleteFact_ok y f = true from HI.out.1, hz] at hcon
      have HZ := Lib.hid (show z = x from hz.symm.trans HI.out.2.2.2.2)
      have H45 := Lib.hid hh
      clear hz hh
      go_wp2_with fail
      refine hcon.mono ?_
      rintro e w6 ⟨r6, rfl, hO6, -, hb6⟩
      obtain ⟨P6, c6, Q6, d6, rfl⟩ := Instance_form (hO6.at_ (Nat.le_refl _))
      have HO6 := Lib.hid (hO6.at_ (Nat.le_refl _))
      have hz6 := hb6.size
      clear hO6 hcon y0 y1 f0 f1
      go_upto_region 15 with fail
      obtain ⟨b17, hb17⟩ : ∃ b, b = w6.heap.size := ⟨_, rfl⟩
      obtain ⟨W6, hW6⟩ : ∃ W, W = w6.alloc (.cells #[.slice P6 z.rels.length c6, .slice Q6 z.facts.length d6] 43) := ⟨_, rfl⟩
      have Z0 := Lib.hid (show W6.cell? ⟨b17, 0, none⟩ = some (.slice P6 z.rels.length c6) by rw [hW6, hb17]; simp [go_sem])
      have Z1 := Lib.hid (show W6.cell? ⟨b17, 1, none⟩ = some (.slice Q6 z.facts.length d6) by rw [hW6, hb17]; simp [go_sem])
      have hE6 : Below w6.heap.size w6 W6 := by rw [hW6]; exact below_more (Below.refl _ _) _
      have hz6' : b17 < W6.heap.size := by rw [hW6, hb17]; simp
      rw [← hb17, ← hW6]
      have h46 : Below W4.heap.size W4 W6 := H45.out.trans ((hb6.trans (hE6.mono hz6)).mono H45.out.size)
      have HZ6 := Lib.hid (HO6.out.later hE6)
      have H46 := Lib.hid h46
      have hz46 := h46.size
      have y0 := (h46.cell (p := ⟨b5, 0, none⟩) (by show b5 < _; omega)).trans Y0.out
      have y1 := (h46.cell (p := ⟨b5, 1, none⟩) (by show b5 < _; omega)).trans Y1.out
      have f0 := (h46.cell (p := ⟨b3 + 1, 0, none⟩) (by show b3 + 1 < _; omega)).trans F0.out
      have f1 := (h46.cell (p := ⟨b3 + 1, 1, none⟩) (by show b3 + 1 < _; omega)).trans F1.out
      clear hE6 hW6 hb17 hb6 h46 HO6
      go_wp2_with fail
      refine (implContainsFact_at y f true HI.out.1 _ _ W6 (HY4.out.later H46.out) HYS.out.wf (HF4.out.later H46.out)).mono ?_
      rintro e w7 ⟨rfl, hb7⟩
      have h47 := H46.out.trans (hb7.mono hz46)
      have H47 := Lib.hid h47
      have H67 := Lib.hid hb7
      have hz47 := h47.size
      clear y0 y1 f0 f1
      have x0 := (h47.cell (p := ⟨b3, 0, none⟩) (by show b3 < _; omega)).trans X0.out
      have x1 := (h47.cell (p := ⟨b3, 1, none⟩) (by show b3 < _; omega)).trans X1.out
      have f0 := (h47.cell (p := ⟨b3 + 1, 0, none⟩) (by show b3 + 1 < _; omega)).trans F0.out
      have f1 := (h47.cell (p := ⟨b3 + 1, 1, none⟩) (by show b3 + 1 < _; omega)).trans F1.out
      clear h47 hb7
      go_wp2_with fail
      refine (implContainsFact_at x f false HI.out.2.1 _ _ w7 (HX4.out.later H47.out) HS.out.wf (HF4.out.later H47.out)).mono ?_
      rintro e w8 ⟨rfl, hb8⟩
      have h48 := H47.out.trans (hb8.mono hz47)
      have H48 := Lib.hid h48
      have H68 := Lib.hid (H67.out.trans (hb8.mono H67.out.size))
      have hz48 := h48.size
      clear x0 x1 f0 f1
      have y0 := (h48.cell (p := ⟨b5, 0, none⟩) (by show b5 < _; omega)).trans Y0.out
      have y1 := (h48.cell (p := ⟨b5, 1, none⟩) (by show b5 < _; omega)).trans Y1.out
      clear h48 hb8
      go_wp2_with fail
      refine (implIsValidInstance_at y true HI.out.2.2.1 _ w8 (HY4.out.later H48.out) HYS.out.wf).mono ?_
      rintro e w9 ⟨rfl, hb9⟩
      have h49 := H48.out.trans (hb9.mono hz48)
      have H49 := Lib.hid h49
      have H69 := Lib.hid (H68.out.trans (hb9.mono H68.out.size))
      have hz49 := h49.size
      clear y0 y1
      have x0 := (h49.cell (p := ⟨b3, 0, none⟩) (by show b3 < _; omega)).trans X0.out
      have x1 := (h49.cell (p := ⟨b3, 1, none⟩) (by show b3 < _; omega)).trans X1.out
      have y0 := (h49.cell (p := ⟨b5, 0, none⟩) (by show b5 < _; omega)).trans Y0.out
      have y1 := (h49.cell (p := ⟨b5, 1, none⟩) (by show b5 < _; omega)).trans Y1.out
      clear h49 hb9
      go_wp2_with fail
      refine (implIsSubset_at3 x y true HI.out.2.2.2.1 _ _ w9 (HX4.out.later H49.out) (HY4.out.later H49.out)).mono ?_
      rintro e w10 ⟨rfl, hb10⟩
      have h410 := H49.out.trans (hb10.mono hz49)
      have H410 := Lib.hid h410
      have h610 := H69.out.trans (hb10.mono H69.out.size)
      have H610 := Lib.hid h610
      have hz410 := h410.size
      clear x0 x1 y0 y1
      have x0 := (h410.cell (p := ⟨b3, 0, none⟩) (by show b3 < _; omega)).trans X0.out
      have x1 := (h410.cell (p := ⟨b3, 1, none⟩) (by show b3 < _; omega)).trans X1.out
      have z0 := (h610.cell (p := ⟨b17, 0, none⟩) (by show b17 < _; omega)).trans Z0.out
      have z1 := (h610.cell (p := ⟨b17, 1, none⟩) (by show b17 < _; omega)).trans Z1.out
      clear h410 hb10 h610
      have hev := specEqualInstances_at3 z x true (by rw [HZ.out]; exact eqInst_self x) _ _ w10 (HZ6.out.later H610.out) (HX4.out.later H410.out)
      have HEND := Lib.hid (HW4.out.trans (H410.out.mono HW4.out.size))
      go_wp2_with fail
      refine hev.mono ?_
      rintro e w11 ⟨rfl, hb11⟩
      go_wp2
      go_ret
      exact ⟨rfl, HEND.out.trans (hb11.mono HEND.out.size)⟩

end Go.Proofs.Ytchlelkhpahakaa
