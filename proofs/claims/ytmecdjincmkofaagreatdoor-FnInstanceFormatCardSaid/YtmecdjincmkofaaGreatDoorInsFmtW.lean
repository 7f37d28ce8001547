/-
  Walks and plain lemmas for the laws of this seat: what single Go functions return, for every argument.
-/
import Derived.Deep.Quiet
import Derived.Test.YtmecdjincmkofaaGreatDoorRels
import Derived.Test.YtmecdjincmkofaaGreatDoorDraw
import Derived.Test.YtmecdjincmkofaaGreatDoorLift
import Derived.Test.YtmecdjincmkofaaGreatDoorAft
import Derived.Test.YtmecdjincmkofaaGreatDoorTyInst
import Derived.Test.YtmecdjincmkofaaGreatDoorInstV
import Derived.Test.YtmecdjincmkofaaGreatDoorDrawN
import Derived.Test.YtmecdjincmkofaaGreatDoorParInst
import Derived.Test.YtmecdjincmkofaaGreatDoorParInstS
import Derived.Test.YtmecdjincmkofaaGreatDoorValInI
import Derived.Test.YtmecdjincmkofaaGreatDoorParInI
import Derived.Test.YtmecdjincmkofaaGreatDoorFmtRI
import Derived.Test.YtmecdjincmkofaaGreatDoorInstEqS
import Derived.Test.YtmecdjincmkofaaGreatDoorSubI
namespace Go.Proofs.YtmecdjincmkofaaGreatDoor
open Go.RowKit

theorem instOk_wf {x : Inst} (h : instOk x = true) : Instance_wf x := by
  obtain ⟨h1, _, h3, _⟩ := (instOk_iff x).1 h
  refine ⟨fun i hi => ?_, fun i hi => ?_⟩
  · have := (relOk_bd _ _ (validRels_at x.rels h3 i hi)).1
    unfold maxLen; omega
  · obtain ⟨hv, hin, -, hvs⟩ := factOk_parts (h1 _ (List.getElem_mem hi)).1
    have hl : x.rels.length ≤ 6 := validRels_len _ hv
    refine ⟨⟨by omega, by omega⟩, fun j hj => ?_⟩
    have := hvs j hj
    unfold validV at this
    have := of_decide_eq_true this
    omega
theorem par_fmt (x : Inst) : ParseInstance_ok ⟨(fmtInst x).toArray⟩ = instOk x ∧ (instOk x = true → ParseInstance_r0 ⟨(fmtInst x).toArray⟩ = x) := by
  have hd : (⟨(fmtInst x).toArray⟩ : ByteArray).data.toList = fmtInst x := rfl
  cases h : instOk x with
  | true =>
    have hp := (parseInst_iff (fmtInst x) x).2 ⟨h, rfl⟩
    rw [← hd] at hp
    obtain ⟨h1, h2⟩ := parseInst_yes hp
    exact ⟨h2, fun _ => h1⟩
  | false =>
    refine ⟨?_, fun e => by cases e⟩
    cases hp : parseInst (fmtInst x) with
    | none =>
      rw [← hd] at hp
      exact (parseInst_no hp).2
    | some z =>
      exfalso
      obtain ⟨h1, h2⟩ := (parseInst_iff _ _).1 hp
      rw [fmtInst_no h, fmtInst_yes h1] at h2
      simp at h2
theorem par_str (s : ByteArray) (h : ParseInstance_ok s = true) : instOk (ParseInstance_r0 s) = true ∧ (⟨(fmtInst (ParseInstance_r0 s)).toArray⟩ : ByteArray) = s := by
  unfold ParseInstance_ok at h
  obtain ⟨z, hz⟩ := Option.isSome_iff_exists.1 h
  obtain ⟨h1, h2⟩ := (parseInst_iff _ _).1 hz
  rw [(parseInst_yes hz).1]
  refine ⟨h1, ?_⟩
  rw [h2]
theorem specEqInst_at4 (x y : Inst) (q : Bool) (hq : eqInst x y = q) (v u : Value) (w : World) (h : Instance_at w w.heap.size v x) (h' : Instance_at w w.heap.size u y) :
    Calls Tryz.prog 27 #[v, u] w fun e w' => e = .returned (.bool q) ∧ Below w.heap.size w w' := by
  subst hq; exact specEqualInstances_any v u x y w h h'
theorem implEqInst_at4 (x y : Inst) (q : Bool) (hq : eqInst x y = q) (v u : Value) (w : World) (h : Instance_at w w.heap.size v x) (h' : Instance_at w w.heap.size u y) :
    Calls Tryz.prog 28 #[v, u] w fun e w' => e = .returned (.bool q) ∧ Below w.heap.size w w' := by
  subst hq; exact implEqualInstances_any v u x y w h h'
theorem implFmtInst_at4 (x : Inst) (s : ByteArray) (hs : (⟨(fmtInst x).toArray⟩ : ByteArray) = s) (v : Value) (w : World) (h : Instance_at w w.heap.size v x) (hw : Instance_wf x) (ht : Tab w) :
    Calls Tryz.prog 21 #[v] w fun e w' => e = .returned (.string s) ∧ Below w.heap.size w w' := by
  subst hs; exact implFormatInstance_any v x w h hw ht
set_option maxHeartbeats 12800000 in
set_option maxRecDepth 100000 in
theorem walkIF (q : Option Addr) (code : List UInt8) (c : Nat) (_ : code.length ≤ maxLen) (w : World) (hc : CodeAt w w.heap.size (.slice q code.length c) code) (ht : Tab w) (hv : ErrVars w) (hm : MaxL w) :
    Calls Tryz.prog 4 #[.slice q code.length c] w fun e w' => e = .returned (.bool true) ∧ Below w.heap.size w w' := by
  by_cases hbig : 1048576 < code.length
  · have hd : decide (1048576 < ((code.length : Nat) : Int)) = true := by simp; omega
    go_enter Tryz.func4, Tryz.ntmps4
    go_wp2_with fail
    refine (big_any q _ c _).mono ?_; rintro e w1 ⟨rfl, rfl⟩
    go_wp2_with fail
    go_ret
    exact ⟨rfl, Below.refl _ _⟩
  · have hlen : code.length ≤ 1048576 := by omega
    have hd : decide (1048576 < ((code.length : Nat) : Int)) = false := by simp; omega
    clear hbig
    go_enter Tryz.func4, Tryz.ntmps4
    go_wp2_with fail
    refine (big_any q _ c _).mono ?_; rintro e w1 ⟨rfl, rfl⟩
    go_wp2_with fail
    refine (drawFmtInst_c _ code _ hc hlen).mono ?_; rintro e w1 ⟨V, x, rfl, hlo, hs, hb1⟩
    have HX := Lib.hid hlo.at_
    obtain ⟨P, cP, Q, d, rfl⟩ := Instance_form hlo.at_
    have HS := Lib.hid hs
    have HW := Lib.hid hb1
    clear hlo hs hd hb1
    go_upto_region 4 with fail
    obtain ⟨b3, hb3⟩ : ∃ b, b = w1.heap.size := ⟨_, rfl⟩
    obtain ⟨W1, hW1⟩ : ∃ W, W = w1.alloc (.cells #[.slice P x.rels.length cP, .slice Q x.facts.length d] 40) := ⟨_, rfl⟩
    have x0 : W1.cell? ⟨b3, 0, none⟩ = some (.slice P x.rels.length cP) := by rw [hW1, hb3]; simp [go_sem]
    have x1 : W1.cell? ⟨b3, 1, none⟩ = some (.slice Q x.facts.length d) := by rw [hW1, hb3]; simp [go_sem]
    have X0 := Lib.hid x0
    have X1 := Lib.hid x1
    have hE1 : Below w1.heap.size w1 W1 := by rw [hW1]; exact below_more (Below.refl _ _) _
    have hz1 : b3 < W1.heap.size := by rw [hW1, hb3]; simp
    rw [← hb3, ← hW1]
    have HX := Lib.hid (HX.out.later hE1)
    have HW := Lib.hid (HW.out.trans (hE1.mono HW.out.size))
    clear hE1 hW1 hb3
    have hcon := implFormatInstance_any _ x W1 HX.out HS.out.wf (ht.below HW.out)
    have hfl := fmtInst_short x
    obtain ⟨hp1, hp2⟩ := par_fmt x
    obtain ⟨t, htt⟩ : ∃ t : ByteArray, t = ⟨(fmtInst x).toArray⟩ := ⟨_, rfl⟩
    have htz : t.size ≤ 1000 := by rw [htt]; simpa [ByteArray.size] using hfl
    rw [← htt] at hcon hp1 hp2
    clear htt hfl
    go_wp2_with fail
    refine hcon.mono ?_
    rintro e w2 ⟨rfl, hb2⟩
    have hz2 := hb2.size
    have hw2 := HW.out.trans (hb2.mono HW.out.size)
    have hcon := implParseInstance_any t w2 (by omega) (ht.below hw2) (hv.below hw2) (hm.below hw2)
    unfold GivesInst at hcon
    obtain ⟨y, hy⟩ : ∃ y, ParseInstance_r0 t = y := ⟨_, rfl⟩
    obtain ⟨is, his⟩ : ∃ b, instOk x = b := ⟨_, rfl⟩
    rw [hp1, his, hy] at hcon
    rw [hy] at hp2
    have HYX := Lib.hid (fun e : is = true => hp2 (his.trans e))
    have HIS := Lib.hid his
    clear hp1 hp2 hy his x0 x1
    go_wp2_with fail
    refine hcon.mono ?_
    rintro e w3 ⟨r3, rfl, hO3, hb3'⟩
    obtain ⟨P3, c3, Q3, d3, rfl⟩ := Instance_form (hO3.at_ (Nat.le_refl _))
    have HO3 := Lib.hid (hO3.at_ (Nat.le_refl _))
    have hz3 := hb3'.size
    clear hO3 hcon
    go_upto_region 5 with fail
    obtain ⟨b4, hb4⟩ : ∃ b, b = w3.heap.size := ⟨_, rfl⟩
    obtain ⟨W3, hW3⟩ : ∃ W, W = w3.alloc (.cells #[.slice P3 y.rels.length c3, .slice Q3 y.facts.length d3] 40) := ⟨_, rfl⟩
    have Y0 := Lib.hid (show W3.cell? ⟨b4, 0, none⟩ = some (.slice P3 y.rels.length c3) by rw [hW3, hb4]; simp [go_sem])
    have Y1 := Lib.hid (show W3.cell? ⟨b4, 1, none⟩ = some (.slice Q3 y.facts.length d3) by rw [hW3, hb4]; simp [go_sem])
    have hE3 : Below w3.heap.size w3 W3 := by rw [hW3]; exact below_more (Below.refl _ _) _
    have hz3' : b4 < W3.heap.size := by rw [hW3, hb4]; simp
    rw [← hb4, ← hW3]
    have HY := Lib.hid (HO3.out.later hE3)
    have H13 := Lib.hid ((hb2.trans (hb3'.mono hz2)).trans (hE3.mono (Nat.le_trans hz2 hz3)))
    clear hE3 hW3 hb4 hb2 hb3' hz2 hz3 HO3 hw2
    have hw3 := HW.out.trans (H13.out.mono HW.out.size)
    go_wp2_with fail
    refine (drawParInst_c _ code W3 (hc.later hw3) hlen).mono ?_
    rintro e w4 ⟨s, rfl, hss, hb4⟩
    have hw4 := hw3.trans (hb4.mono hw3.size)
    have hz4 := hb4.size
    have hcon := implParseInstance_any s w4 (by omega) (ht.below hw4) (hv.below hw4) (hm.below hw4)
    unfold GivesInst at hcon
    obtain ⟨z, hz⟩ : ∃ z, ParseInstance_r0 s = z := ⟨_, rfl⟩
    obtain ⟨fine, hfi⟩ : ∃ b, ParseInstance_ok s = b := ⟨_, rfl⟩
    have hps := par_str s
    rw [hfi, hz] at hcon hps
    have HPS := Lib.hid hps
    have HZE := Lib.hid hz
    have HFI := Lib.hid hfi
    clear hps hz hfi
    go_wp2_with fail
    refine hcon.mono ?_
    rintro e w5 ⟨r5, rfl, hO5, hb5⟩
    obtain ⟨P5, c5, Q5, d5, rfl⟩ := Instance_form (hO5.at_ (Nat.le_refl _))
    have HO5 := Lib.hid (hO5.at_ (Nat.le_refl _))
    have hz5 := hb5.size
    clear hO5 hcon
    go_upto_region 7 with fail
    obtain ⟨b7, hb7⟩ : ∃ b, b = w5.heap.size := ⟨_, rfl⟩
    obtain ⟨W5, hW5⟩ : ∃ W, W = w5.alloc (.cells #[.slice P5 z.rels.length c5, .slice Q5 z.facts.length d5] 40) := ⟨_, rfl⟩
    have Z0 := Lib.hid (show W5.cell? ⟨b7, 0, none⟩ = some (.slice P5 z.rels.length c5) by rw [hW5, hb7]; simp [go_sem])
    have Z1 := Lib.hid (show W5.cell? ⟨b7, 1, none⟩ = some (.slice Q5 z.facts.length d5) by rw [hW5, hb7]; simp [go_sem])
    have hE5 : Below w5.heap.size w5 W5 := by rw [hW5]; exact below_more (Below.refl _ _) _
    have hz5' : b7 < W5.heap.size := by rw [hW5, hb7]; simp
    rw [← hb7, ← hW5]
    have HZ := Lib.hid (HO5.out.later hE5)
    have H35 := Lib.hid ((hb4.trans (hb5.mono hz4)).trans (hE5.mono (Nat.le_trans hz4 hz5)))
    clear hE5 hW5 hb7 hb4 hb5 hz4 hz5 HO5 hw4 hw3
    have hcon := specParseInstance_any s W5 (by omega)
    unfold GivesInst at hcon
    rw [HFI.out, HZE.out] at hcon
    go_wp2_with fail
    refine hcon.mono ?_
    rintro e w6 ⟨r6, rfl, hO6, hb6⟩
    obtain ⟨P6, c6, Q6, d6, rfl⟩ := Instance_form (hO6.at_ (Nat.le_refl _))
    have hz6 := hb6.size
    clear hO6 hcon
    go_upto_region 8 with fail
    obtain ⟨W6, hW6⟩ : ∃ W, W = w6.alloc (.cells #[.slice P6 z.rels.length c6, .slice Q6 z.facts.length d6] 40) := ⟨_, rfl⟩
    have hE6 : Below w6.heap.size w6 W6 := by rw [hW6]; exact below_more (Below.refl _ _) _
    rw [← hW6]
    have H56 := Lib.hid (hb6.trans (hE6.mono hz6))
    clear hE6 hW6 hb6 hz6
    have H36 := Lib.hid (H35.out.trans (H56.out.mono H35.out.size))
    have H16 := Lib.hid (H13.out.trans (H36.out.mono H13.out.size))
    have hw6 := HW.out.trans (H16.out.mono HW.out.size)
    go_wp2_with fail
    refine (drawEqInst_c _ code W6 (hc.later hw6) hlen).mono ?_
    rintro e w7 ⟨Va, a, Vb, b, rfl, hla, -, hlb, -, hb7⟩
    have HA := Lib.hid hla.at_
    have HB := Lib.hid hlb.at_
    obtain ⟨PA, cA, QA, dA, rfl⟩ := Instance_form hla.at_
    obtain ⟨PB, cB, QB, dB, rfl⟩ := Instance_form hlb.at_
    have hz7 := hb7.size
    clear hla hlb hw6
    go_upto_region 9 with fail
    obtain ⟨b9, hb9⟩ : ∃ b, b = w7.heap.size := ⟨_, rfl⟩
    obtain ⟨W7, hW7⟩ : ∃ W, W = (w7.alloc (.cells #[.slice PA a.rels.length cA, .slice QA a.facts.length dA] 40)).alloc (.cells #[.slice PB b.rels.length cB, .slice QB b.facts.length dB] 40) := ⟨_, rfl⟩
    have A0 := Lib.hid (show W7.cell? ⟨b9, 0, none⟩ = some (.slice PA a.rels.length cA) by rw [hW7, hb9]; simp [go_sem])
    have A1 := Lib.hid (show W7.cell? ⟨b9, 1, none⟩ = some (.slice QA a.facts.length dA) by rw [hW7, hb9]; simp [go_sem])
    have B0 := Lib.hid (show W7.cell? ⟨b9 + 1, 0, none⟩ = some (.slice PB b.rels.length cB) by rw [hW7, hb9]; simp [go_sem])
    have B1 := Lib.hid (show W7.cell? ⟨b9 + 1, 1, none⟩ = some (.slice QB b.facts.length dB) by rw [hW7, hb9]; simp [go_sem])
    have hE7 : Below w7.heap.size w7 W7 := by rw [hW7]; exact below_more (below_more (Below.refl _ _) _) _
    have hz7' : b9 + 1 < W7.heap.size := by rw [hW7, hb9]; simp
    rw [← hb9, ← hW7]
    have HA := Lib.hid (HA.out.later hE7)
    have HB := Lib.hid (HB.out.later hE7)
    have h67 := hb7.trans (hE7.mono hz7)
    have H57 := Lib.hid (H56.out.trans (h67.mono H56.out.size))
    have H37 := Lib.hid (H36.out.trans (h67.mono H36.out.size))
    have H17 := Lib.hid (H16.out.trans (h67.mono H16.out.size))
    have HW7 := Lib.hid (HW.out.trans (H17.out.mono HW.out.size))
    have HX7 := Lib.hid (HX.out.later H17.out)
    have HY7 := Lib.hid (HY.out.later H37.out)
    have HZ7 := Lib.hid (HZ.out.later H57.out)
    have hz17 := H17.out.size
    have hz37 := H37.out.size
    have hz57 := H57.out.size
    have X0 := (H17.out.cell (p := ⟨b3, 0, none⟩) (by show b3 < _; omega)).trans X0.out
    have X1 := (H17.out.cell (p := ⟨b3, 1, none⟩) (by show b3 < _; omega)).trans X1.out
    have Y0 := (H37.out.cell (p := ⟨b4, 0, none⟩) (by show b4 < _; omega)).trans Y0.out
    have Y1 := (H37.out.cell (p := ⟨b4, 1, none⟩) (by show b4 < _; omega)).trans Y1.out
    have Z0 := (H57.out.cell (p := ⟨b7, 0, none⟩) (by show b7 < _; omega)).trans Z0.out
    have Z1 := (H57.out.cell (p := ⟨b7, 1, none⟩) (by show b7 < _; omega)).trans Z1.out
    have GX0 := Aft.cell (B := W7.heap.size) (w := W7) (show b3 < _ by omega) X0
    have GX1 := Aft.cell (B := W7.heap.size) (w := W7) (show b3 < _ by omega) X1
    have GY0 := Aft.cell (B := W7.heap.size) (w := W7) (show b4 < _ by omega) Y0
    have GY1 := Aft.cell (B := W7.heap.size) (w := W7) (show b4 < _ by omega) Y1
    have GZ0 := Aft.cell (B := W7.heap.size) (w := W7) (show b7 < _ by omega) Z0
    have GZ1 := Aft.cell (B := W7.heap.size) (w := W7) (show b7 < _ by omega) Z1
    have GA0 := Aft.cell (B := W7.heap.size) (w := W7) (show b9 < _ by omega) A0.out
    have GA1 := Aft.cell (B := W7.heap.size) (w := W7) (show b9 < _ by omega) A1.out
    have GB0 := Aft.cell (B := W7.heap.size) (w := W7) (show b9 + 1 < _ by omega) B0.out
    have GB1 := Aft.cell (B := W7.heap.size) (w := W7) (show b9 + 1 < _ by omega) B1.out
    clear hE7 hW7 hb9 hb7 hz7 h67 H56 H36 H16 H57 H37 H17 HX HY HZ X0 X1 Y0 Y1 Z0 Z1 hlen
    obtain ⟨qe, hqe⟩ : ∃ r, eqInst a b = r := ⟨_, rfl⟩
    have hIVs := fun (u : Aft W7.heap.size W7) => specIsValidInstance_at x is HIS.out _ u.now (HX7.out.later u.is) HS.out.wf (by have := HS.out.sz (by decide); omega)
    have hIVi := fun (u : Aft W7.heap.size W7) => implIsValidInstance_at x is HIS.out _ u.now (HX7.out.later u.is) HS.out.wf
    have hEi := fun (u : Aft W7.heap.size W7) => implEqInst_at4 a b qe hqe _ _ u.now (HA.out.later u.is) (HB.out.later u.is)
    have hEab := fun (u : Aft W7.heap.size W7) => specEqInst_at4 a b qe hqe _ _ u.now (HA.out.later u.is) (HB.out.later u.is)
    clear hqe
    have hEyx := fun (r : Bool) (hr : eqInst y x = r) (u : Aft W7.heap.size W7) => specEqInst_at4 y x r hr _ _ u.now (HY7.out.later u.is) (HX7.out.later u.is)
    have hFz := fun (r : ByteArray) (hr : (⟨(fmtInst z).toArray⟩ : ByteArray) = r) (hzw : Instance_wf z) (u : Aft W7.heap.size W7) => implFmtInst_at4 z r hr _ u.now (HZ7.out.later u.is) hzw (ht.below (HW7.out.trans (u.is.mono HW7.out.size)))
    cases is with
    | true =>
      replace hEyx := hEyx true (by rw [HYX.out rfl]; unfold eqInst; simp)
      cases fine with
      | true =>
        replace hFz := hFz s (HPS.out rfl).2 (instOk_wf (HPS.out rfl).1)
        refine wp_region_aft (Below.refl W7.heap.size W7) (by kernel_rfl) (by kernel_rfl) ?_
        iterate 40 (go_big_quiet_step (first | (go_at_call 25; exact calls_aft (Nat.le_refl _) (hIVs _)) | (go_at_call 26; exact calls_aft (Nat.le_refl _) (hIVi _)) | (go_at_call 28; exact calls_aft (Nat.le_refl _) (hEi _)) | (go_at_call 27; exact calls_aft (Nat.le_refl _) (hEyx _)) | (go_at_call 21; exact calls_aft (Nat.le_refl _) (hFz _))))
        go_big_quiet_step ((go_at_call 27; exact calls_aft (Nat.le_refl _) (hEab _)))
        iterate 3 (go_big_quiet_step (fail))
        refine wpQuiet_nil ?_
        refine aft_end ?_
        intro w8 hh
        go_wp2
        go_ret
        exact ⟨rfl, HW7.out.trans (hh.mono HW7.out.size)⟩
      | false =>
        refine wp_region_aft (Below.refl W7.heap.size W7) (by kernel_rfl) (by kernel_rfl) ?_
        iterate 40 (go_big_quiet_step (first | (go_at_call 25; exact calls_aft (Nat.le_refl _) (hIVs _)) | (go_at_call 26; exact calls_aft (Nat.le_refl _) (hIVi _)) | (go_at_call 28; exact calls_aft (Nat.le_refl _) (hEi _)) | (go_at_call 27; exact calls_aft (Nat.le_refl _) (hEyx _))))
        go_big_quiet_step ((go_at_call 27; exact calls_aft (Nat.le_refl _) (hEab _)))
        iterate 3 (go_big_quiet_step (fail))
        refine wpQuiet_nil ?_
        refine aft_end ?_
        intro w8 hh
        go_wp2
        go_ret
        exact ⟨rfl, HW7.out.trans (hh.mono HW7.out.size)⟩
    | false =>
      cases fine with
      | true =>
        replace hFz := hFz s (HPS.out rfl).2 (instOk_wf (HPS.out rfl).1)
        refine wp_region_aft (Below.refl W7.heap.size W7) (by kernel_rfl) (by kernel_rfl) ?_
        iterate 40 (go_big_quiet_step (first | (go_at_call 25; exact calls_aft (Nat.le_refl _) (hIVs _)) | (go_at_call 26; exact calls_aft (Nat.le_refl _) (hIVi _)) | (go_at_call 28; exact calls_aft (Nat.le_refl _) (hEi _)) | (go_at_call 21; exact calls_aft (Nat.le_refl _) (hFz _))))
        go_big_quiet_step ((go_at_call 27; exact calls_aft (Nat.le_refl _) (hEab _)))
        iterate 3 (go_big_quiet_step (fail))
        refine wpQuiet_nil ?_
        refine aft_end ?_
        intro w8 hh
        go_wp2
        go_ret
        exact ⟨rfl, HW7.out.trans (hh.mono HW7.out.size)⟩
      | false =>
        refine wp_region_aft (Below.refl W7.heap.size W7) (by kernel_rfl) (by kernel_rfl) ?_
        iterate 40 (go_big_quiet_step (first | (go_at_call 25; exact calls_aft (Nat.le_refl _) (hIVs _)) | (go_at_call 26; exact calls_aft (Nat.le_refl _) (hIVi _)) | (go_at_call 28; exact calls_aft (Nat.le_refl _) (hEi _))))
        go_big_quiet_step ((go_at_call 27; exact calls_aft (Nat.le_refl _) (hEab _)))
        iterate 3 (go_big_quiet_step (fail))
        refine wpQuiet_nil ?_
        refine aft_end ?_
        intro w8 hh
        go_wp2
        go_ret
        exact ⟨rfl, HW7.out.trans (hh.mono HW7.out.size)⟩

end Go.Proofs.YtmecdjincmkofaaGreatDoor
