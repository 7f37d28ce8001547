/-
  Walks and plain lemmas for the laws of this seat: what single Go functions return, for every argument.
-/
import Derived.Deep.Quiet
import Derived.Test.YtmecdjincmkofaaGreatDoorDrawG
import Derived.Test.YtmecdjincmkofaaGreatDoorLift
import Derived.Test.YtmecdjincmkofaaGreatDoorAft
import Derived.Test.YtmecdjincmkofaaGreatDoorFmtDS
import Derived.Test.YtmecdjincmkofaaGreatDoorFmtDI
import Derived.Test.YtmecdjincmkofaaGreatDoorParDI
import Derived.Test.YtmecdjincmkofaaGreatDoorParDSI
import Derived.Test.YtmecdjincmkofaaGreatDoorFmtDI2
import Derived.Test.YtmecdjincmkofaaGreatDoorParDSS
namespace Go.Proofs.YtmecdjincmkofaaGreatDoor
open Go.RowKit

theorem pd_fmt (l : List Rel) (rs : List Dep) (h : depsOk l rs = true) : ParseDependencies_ok l ⟨(fmtDeps l rs).toArray⟩ = true ∧ ParseDependencies_r0 l ⟨(fmtDeps l rs).toArray⟩ = rs := by
  have h1 : parseDeps l (⟨(fmtDeps l rs).toArray⟩ : ByteArray).data.toList = some rs := (parseDeps_iff l _ rs).2 ⟨h, (fmtDeps_yes h).symm⟩
  exact ⟨(parseDeps_some h1).2, (parseDeps_some h1).1⟩
theorem pd_str (l : List Rel) (s : ByteArray) (h : ParseDependencies_ok l s = true) : (⟨(fmtDeps l (ParseDependencies_r0 l s)).toArray⟩ : ByteArray) = s := by
  cases hp : parseDeps l s.data.toList with
  | none => rw [(parseDeps_none hp).2] at h; cases h
  | some xs =>
    rw [(parseDeps_some hp).1]
    obtain ⟨h1, h2⟩ := (parseDeps_iff _ _ _).1 hp
    rw [fmtDeps_yes h1, h2]
theorem rl9 {w w' : World} {v : Value} {l : List Rel} (h : RelsAt w w.heap.size v l) (hb : Below w.heap.size w w') : RelsAt w' w'.heap.size v l := (h.below hb (Nat.le_refl _)).more hb.size
theorem depEq_same (x : Dep) : depEq x x = true := by unfold depEq; simp
set_option maxHeartbeats 12800000 in
set_option maxRecDepth 100000 in
theorem walkDL (q : Option Addr) (code : List UInt8) (c : Nat) (_ : code.length ≤ maxLen) (w : World) (hc : CodeAt w w.heap.size (.slice q code.length c) code) (ht : Tab w) (hv : ErrVars w) (hm : MaxL w) :
    Calls Tryz.prog 3 #[.slice q code.length c] w fun e w' => e = .returned (.bool true) ∧ Below w.heap.size w w' := by
  by_cases hbig : 1048576 < code.length
  · have hd : decide (1048576 < ((code.length : Nat) : Int)) = true := by simp; omega
    go_enter Tryz.func3, Tryz.ntmps3
    go_wp2_with fail
    refine (big_any q _ c _).mono ?_; rintro e w1 ⟨rfl, rfl⟩
    go_wp2_with fail
    go_ret
    exact ⟨rfl, Below.refl _ _⟩
  · have hlen : code.length ≤ 1048576 := by omega
    have hd : decide (1048576 < ((code.length : Nat) : Int)) = false := by simp; omega
    clear hbig
    go_enter Tryz.func3, Tryz.ntmps3
    go_wp2_with fail
    refine (big_any q _ c _).mono ?_; rintro e w1 ⟨rfl, rfl⟩
    go_wp2_with fail
    refine (drawFmtDeps_c _ code _ hc hlen).mono ?_; rintro e w1 ⟨v, u, rs, rfl, ⟨B, -, hO⟩, hD, hl, hs, hb1⟩
    have HL := Lib.hid hO.at_
    obtain ⟨P, cP, rfl, -⟩ : RelsAt w1 w1.heap.size v sigs5 := hO.at_
    obtain ⟨U, cU, rfl, -, -⟩ := hD.form
    have HD := Lib.hid hD
    have HF := Lib.hid (depsSmall_wf hs)
    have hsz : DependencyS_sz rs ≤ 1048576 := by have := depsSmall_sz rs hs; unfold DependencyS_sz; omega
    clear hd hO hD hs
    obtain ⟨V, hV⟩ : ∃ b, depsOk sigs5 rs = b := ⟨_, rfl⟩
    have hpf := pd_fmt sigs5 rs
    have hcon := implFormatDeps_any _ sigs5 _ rs w1 HL.out HD.out hsz (ht.below hb1)
    have htz : ByteArray.size ⟨(fmtDeps sigs5 rs).toArray⟩ ≤ 200 := by rw [size_mk]; exact fmtDeps_short _ _
    generalize (⟨(fmtDeps sigs5 rs).toArray⟩ : ByteArray) = t at *
    go_wp2_with fail
    refine hcon.mono ?_; rintro e w2 ⟨rfl, hb2⟩
    clear hcon
    have hz1 := hb1.size
    have hz2 := hb2.size
    have hW2 := hb1.trans (hb2.mono hz1)
    have hcon := implParseDeps_any _ sigs5 t w2 (rl9 HL.out hb2) (by omega) (ht.below hW2) (hv.below hW2) (hm.below hW2)
    obtain ⟨is, his⟩ : ∃ b, ParseDependencies_ok sigs5 t = b := ⟨_, rfl⟩
    obtain ⟨x, hx⟩ : ∃ r, ParseDependencies_r0 sigs5 t = r := ⟨_, rfl⟩
    rw [his, hx] at hcon hpf
    have HPF := Lib.hid hpf
    have HV := Lib.hid hV
    clear his hx hpf hV
    go_wp2_with fail
    refine hcon.mono ?_; rintro e w3 ⟨u3, rfl, hO3, hb3⟩
    have HX := Lib.hid (hO3.at_ (Nat.le_refl _))
    obtain ⟨X, cX, rfl, -, -⟩ := HX.out.form
    clear hcon hO3
    have hz3 := hb3.size
    have hW3 := hW2.trans (hb3.mono hW2.size)
    have H13 := Lib.hid (hb2.trans (hb3.mono hz2))
    clear hb2 hW2
    go_wp2_with fail
    refine (drawDepStr_c _ code _ (hc.later hW3) hlen).mono ?_; rintro e w4 ⟨m, s, rfl, hM, hss, hb4⟩
    have HM := Lib.hid hM
    obtain ⟨M, cM, rfl, -⟩ := hM
    have hz4 := hb4.size
    have hW4 := hW3.trans (hb4.mono hW3.size)
    have hcon := implParseDeps_any _ sigs5 s w4 HM.out (by omega) (ht.below hW4) (hv.below hW4) (hm.below hW4)
    have hsp := fun (w5 : World) (hb5 : Below w4.heap.size w4 w5) => specParseDeps_any _ sigs5 s w5 (rl9 HM.out hb5) (by decide) (by omega)
    obtain ⟨fine, hfi⟩ : ∃ b, ParseDependencies_ok sigs5 s = b := ⟨_, rfl⟩
    have hps := pd_str sigs5 s
    have hyz := parseDeps_sz sigs5 s
    obtain ⟨y, hy⟩ : ∃ r, ParseDependencies_r0 sigs5 s = r := ⟨_, rfl⟩
    rw [hfi, hy] at hcon hps
    rw [hy] at hyz
    rw [hfi] at hsp
    have HPS := Lib.hid hps
    have HSP := Lib.hid hsp
    clear hfi hy hps hsp
    go_wp2_with fail
    refine hcon.mono ?_; rintro e w5 ⟨u5, rfl, hO5, hb5⟩
    have HY := Lib.hid (hO5.at_ (Nat.le_refl _))
    obtain ⟨Y, cY, rfl, -, -⟩ := HY.out.form
    clear hcon hO5
    have hz5 := hb5.size
    have hW5 := hW4.trans (hb5.mono hW4.size)
    go_wp2_with fail
    refine (HSP.out w5 hb5).mono ?_; rintro e w6 ⟨u6, rfl, -, hb6⟩
    have hz6 := hb6.size
    have hW6 := hW5.trans (hb6.mono hW5.size)
    have HM6 := Lib.hid (rl9 HM.out (hb5.trans (hb6.mono hz5)))
    have HY6 := Lib.hid (HY.out.later hb6)
    have H46 := hb4.trans ((hb5.trans (hb6.mono hz5)).mono hz4)
    have H16 := H13.out.trans (H46.mono H13.out.size)
    have HL6 := Lib.hid (rl9 HL.out H16)
    have HD6 := Lib.hid (HD.out.later H16)
    have HX6 := Lib.hid (HX.out.later H46)
    have H0 := Lib.hid hW6
    have hAi := fun (wr : World) (hb : Below w6.heap.size w6 wr) => implAreValidDeps_any _ sigs5 _ rs wr (rl9 HL6.out hb) (HD6.out.later hb) hsz
    have hAs := fun (wr : World) (hb : Below w6.heap.size w6 wr) => specAreValidDeps_any _ sigs5 _ rs wr (rl9 HL6.out hb) (by decide) (HD6.out.later hb) HF.out
    have hFy := fun (wr : World) (hb : Below w6.heap.size w6 wr) => implFormatDeps_any _ sigs5 _ y wr (rl9 HM6.out hb) (HY6.out.later hb) hyz (ht.below (hW6.trans (hb.mono hW6.size)))
    rw [HV.out] at hAi hAs HPF
    clear hb4 hb5 hb6 H46 H16 hW3 hW4 hW5 hz1 hz2 hz3 hz4 hz5 hz6 HSP HM HY HL HD HX H13 hb1 hW6 hlen htz hss hyz
    cases V with
    | false =>
      cases fine with
      | false =>
        go_wp2_with fail
        refine (hAi _ (Below.refl _ _)).mono ?_; rintro e w7 ⟨rfl, hb7⟩
        go_wp2_with fail
        refine (hAs _ hb7).mono ?_; rintro e w8 ⟨rfl, hb8⟩
        have hB8 := hb7.trans (hb8.mono hb7.size)
        go_wp2_with fail
        refine (hAs _ hB8).mono ?_; rintro e wz ⟨rfl, hbz⟩
        have HB := Lib.hid (hB8.trans (hbz.mono hB8.size))
        go_wp2_with fail
        go_ret
        exact ⟨rfl, H0.out.trans (HB.out.mono H0.out.size)⟩
      | true =>
        replace HPS := Lib.hid (HPS.out rfl)
        go_wp2_with fail
        refine (hAi _ (Below.refl _ _)).mono ?_; rintro e w7 ⟨rfl, hb7⟩
        go_wp2_with fail
        refine (hAs _ hb7).mono ?_; rintro e w8 ⟨rfl, hb8⟩
        have hB8 := hb7.trans (hb8.mono hb7.size)
        go_wp2_with fail
        refine (hFy _ hB8).mono ?_; rintro e w9 ⟨rfl, hb9⟩
        rw [HPS.out]
        have hB8 := hB8.trans (hb9.mono hB8.size)
        go_wp2_with fail
        refine (hAs _ hB8).mono ?_; rintro e wz ⟨rfl, hbz⟩
        have HB := Lib.hid (hB8.trans (hbz.mono hB8.size))
        go_wp2_with fail
        go_ret
        exact ⟨rfl, H0.out.trans (HB.out.mono H0.out.size)⟩
    | true =>
      obtain ⟨rfl, rfl⟩ := HPF.out rfl
      cases fine with
      | false =>
        go_wp2_with fail
        refine (hAi _ (Below.refl _ _)).mono ?_; rintro e w7 ⟨rfl, hb7⟩
        go_wp2_with fail
        refine (hAs _ hb7).mono ?_; rintro e w8 ⟨rfl, hb8⟩
        have hB8 := hb7.trans (hb8.mono hb7.size)
        go_wp2_with fail
        refine (hAs _ hB8).mono ?_; rintro e wz ⟨rfl, hbz⟩
        have HB := Lib.hid (hB8.trans (hbz.mono hB8.size))
        clear hAi hAs hFy HPF hb7 hb8 hbz hB8 HV
        have HX := Lib.hid (HX6.out.later HB.out)
        have HD := Lib.hid (HD6.out.later HB.out)
        have HB := Lib.hid (H0.out.trans (HB.out.mono H0.out.size))
        clear HX6 HD6 H0
        go_wp2_with fail
        go_loopw [13] (fun i wr => ∃ j : Nat, j ≤ x.length ∧ i = .int .i64 j ∧ Below wz.heap.size wz wr) (fun i _ => x.length - (intOf i).toNat)
        case atStart => exact ⟨0, Nat.zero_le _, rfl, Below.refl _ _⟩
        case round =>
          obtain ⟨j, hj, rfl, hW⟩ := hrel
          have hz := hW.size
          by_cases hlt : j < x.length
          · obtain ⟨b, off, V1, V2, rfl, hb, c0, c1, c2, c3, c4, hV1, hV2⟩ := DependencyS_at.elem HX.out j hlt
            obtain ⟨b', off', U1, U2, rfl, hb', e0, e1, e2, e3, e4, hU1, hU2⟩ := DependencyS_at.elem HD.out j hlt
            obtain ⟨PV, cV, rfl, -, -⟩ := hV1.form
            obtain ⟨PU, cU', rfl, -, -⟩ := hV2.form
            obtain ⟨QV, dV, rfl, -, -⟩ := hU1.form
            obtain ⟨QU, dU, rfl, -, -⟩ := hU2.form
            have hV1' := (hV1.below hW (Nat.le_refl _)).more hz
            have hV2' := (hV2.below hW (Nat.le_refl _)).more hz
            have hU1' := (hU1.below hW (Nat.le_refl _)).more hz
            have hU2' := (hU2.below hW (Nat.le_refl _)).more hz
            have heq := fun (g : Aft wr.heap.size wr) => specEqualDependencies_any (.agg #[.slice PV x[j].body.length cV, .slice PU x[j].head.length cU', .bool x[j].egd, .int .i64 x[j].left, .int .i64 x[j].right]) (.agg #[.slice QV x[j].body.length dV, .slice QU x[j].head.length dU, .bool x[j].egd, .int .i64 x[j].left, .int .i64 x[j].right]) x[j] x[j] g.now ⟨_, _, rfl, (hV1'.below g.is (Nat.le_refl _)).more g.is.size, (hV2'.below g.is (Nat.le_refl _)).more g.is.size⟩ ⟨_, _, rfl, (hU1'.below g.is (Nat.le_refl _)).more g.is.size, (hU2'.below g.is (Nat.le_refl _)).more g.is.size⟩
            simp only [depEq_same] at heq
            replace c0 := (hW.cell (p := ⟨b, off + j * 5, none⟩) hb).trans c0
            replace c1 := (hW.cell (p := ⟨b, off + j * 5 + 1, none⟩) hb).trans c1
            replace c2 := (hW.cell (p := ⟨b, off + j * 5 + 2, none⟩) hb).trans c2
            replace c3 := (hW.cell (p := ⟨b, off + j * 5 + 3, none⟩) hb).trans c3
            replace c4 := (hW.cell (p := ⟨b, off + j * 5 + 4, none⟩) hb).trans c4
            replace e0 := (hW.cell (p := ⟨b', off' + j * 5, none⟩) hb').trans e0
            replace e1 := (hW.cell (p := ⟨b', off' + j * 5 + 1, none⟩) hb').trans e1
            replace e2 := (hW.cell (p := ⟨b', off' + j * 5 + 2, none⟩) hb').trans e2
            replace e3 := (hW.cell (p := ⟨b', off' + j * 5 + 3, none⟩) hb').trans e3
            replace e4 := (hW.cell (p := ⟨b', off' + j * 5 + 4, none⟩) hb').trans e4
            have hd1 : decide ((j : Int) < (x.length : Int)) = true := decide_eq_true (by omega)
            have hd2 : decide (j < x.length) = true := decide_eq_true hlt
            have hd3 : decide ((x.length : Int) ≤ (j : Int)) = false := decide_eq_false (by omega)
            have hd4 : decide (x.length ≤ j) = false := decide_eq_false (by omega)
            have C0 := Aft.cell (B := wr.heap.size) (w := wr) (show b < _ by omega) c0
            have C1 := Aft.cell (B := wr.heap.size) (w := wr) (show b < _ by omega) c1
            have C2 := Aft.cell (B := wr.heap.size) (w := wr) (show b < _ by omega) c2
            have C3 := Aft.cell (B := wr.heap.size) (w := wr) (show b < _ by omega) c3
            have C4 := Aft.cell (B := wr.heap.size) (w := wr) (show b < _ by omega) c4
            have E0 := Aft.cell (B := wr.heap.size) (w := wr) (show b' < _ by omega) e0
            have E1 := Aft.cell (B := wr.heap.size) (w := wr) (show b' < _ by omega) e1
            have E2 := Aft.cell (B := wr.heap.size) (w := wr) (show b' < _ by omega) e2
            have E3 := Aft.cell (B := wr.heap.size) (w := wr) (show b' < _ by omega) e3
            have E4 := Aft.cell (B := wr.heap.size) (w := wr) (show b' < _ by omega) e4
            clear hV1 hV2 hU1 hU2 hV1' hV2' hU1' hU2' hb hb' c0 c1 c2 c3 c4 e0 e1 e2 e3 e4
            go_upto_region 15 with fail
            refine wp_region_aft (Below.refl wr.heap.size wr) (by kernel_rfl) (by kernel_rfl) ?_
            iterate 16 (go_big_quiet_step (first | (go_at_call 18; exact calls_aft (Nat.le_refl _) (heq _))))
            refine wpQuiet_nil ?_
            refine aft_end ?_
            intro w9 hb9
            go_wp2
            exact ⟨⟨j + 1, by omega, by go_num, hW.trans (hb9.mono hz)⟩, by simp [intOf]; omega⟩
          · obtain rfl : j = x.length := by omega
            have hd1 : decide ((x.length : Int) < (x.length : Int)) = false := decide_eq_false (by omega)
            go_wp2
            go_ret
            exact ⟨rfl, HB.out.trans (hW.mono HB.out.size)⟩
      | true =>
        replace HPS := Lib.hid (HPS.out rfl)
        go_wp2_with fail
        refine (hAi _ (Below.refl _ _)).mono ?_; rintro e w7 ⟨rfl, hb7⟩
        go_wp2_with fail
        refine (hAs _ hb7).mono ?_; rintro e w8 ⟨rfl, hb8⟩
        have hB8 := hb7.trans (hb8.mono hb7.size)
        go_wp2_with fail
        refine (hFy _ hB8).mono ?_; rintro e w9 ⟨rfl, hb9⟩
        rw [HPS.out]
        have hB8 := hB8.trans (hb9.mono hB8.size)
        go_wp2_with fail
        refine (hAs _ hB8).mono ?_; rintro e wz ⟨rfl, hbz⟩
        have HB := Lib.hid (hB8.trans (hbz.mono hB8.size))
        clear hAi hAs hFy HPF hb7 hb8 hbz hB8 HV
        have HX := Lib.hid (HX6.out.later HB.out)
        have HD := Lib.hid (HD6.out.later HB.out)
        have HB := Lib.hid (H0.out.trans (HB.out.mono H0.out.size))
        clear HX6 HD6 H0
        go_wp2_with fail
        go_loopw [13] (fun i wr => ∃ j : Nat, j ≤ x.length ∧ i = .int .i64 j ∧ Below wz.heap.size wz wr) (fun i _ => x.length - (intOf i).toNat)
        case atStart => exact ⟨0, Nat.zero_le _, rfl, Below.refl _ _⟩
        case round =>
          obtain ⟨j, hj, rfl, hW⟩ := hrel
          have hz := hW.size
          by_cases hlt : j < x.length
          · obtain ⟨b, off, V1, V2, rfl, hb, c0, c1, c2, c3, c4, hV1, hV2⟩ := DependencyS_at.elem HX.out j hlt
            obtain ⟨b', off', U1, U2, rfl, hb', e0, e1, e2, e3, e4, hU1, hU2⟩ := DependencyS_at.elem HD.out j hlt
            obtain ⟨PV, cV, rfl, -, -⟩ := hV1.form
            obtain ⟨PU, cU', rfl, -, -⟩ := hV2.form
            obtain ⟨QV, dV, rfl, -, -⟩ := hU1.form
            obtain ⟨QU, dU, rfl, -, -⟩ := hU2.form
            have hV1' := (hV1.below hW (Nat.le_refl _)).more hz
            have hV2' := (hV2.below hW (Nat.le_refl _)).more hz
            have hU1' := (hU1.below hW (Nat.le_refl _)).more hz
            have hU2' := (hU2.below hW (Nat.le_refl _)).more hz
            have heq := fun (g : Aft wr.heap.size wr) => specEqualDependencies_any (.agg #[.slice PV x[j].body.length cV, .slice PU x[j].head.length cU', .bool x[j].egd, .int .i64 x[j].left, .int .i64 x[j].right]) (.agg #[.slice QV x[j].body.length dV, .slice QU x[j].head.length dU, .bool x[j].egd, .int .i64 x[j].left, .int .i64 x[j].right]) x[j] x[j] g.now ⟨_, _, rfl, (hV1'.below g.is (Nat.le_refl _)).more g.is.size, (hV2'.below g.is (Nat.le_refl _)).more g.is.size⟩ ⟨_, _, rfl, (hU1'.below g.is (Nat.le_refl _)).more g.is.size, (hU2'.below g.is (Nat.le_refl _)).more g.is.size⟩
            simp only [depEq_same] at heq
            replace c0 := (hW.cell (p := ⟨b, off + j * 5, none⟩) hb).trans c0
            replace c1 := (hW.cell (p := ⟨b, off + j * 5 + 1, none⟩) hb).trans c1
            replace c2 := (hW.cell (p := ⟨b, off + j * 5 + 2, none⟩) hb).trans c2
            replace c3 := (hW.cell (p := ⟨b, off + j * 5 + 3, none⟩) hb).trans c3
            replace c4 := (hW.cell (p := ⟨b, off + j * 5 + 4, none⟩) hb).trans c4
            replace e0 := (hW.cell (p := ⟨b', off' + j * 5, none⟩) hb').trans e0
            replace e1 := (hW.cell (p := ⟨b', off' + j * 5 + 1, none⟩) hb').trans e1
            replace e2 := (hW.cell (p := ⟨b', off' + j * 5 + 2, none⟩) hb').trans e2
            replace e3 := (hW.cell (p := ⟨b', off' + j * 5 + 3, none⟩) hb').trans e3
            replace e4 := (hW.cell (p := ⟨b', off' + j * 5 + 4, none⟩) hb').trans e4
            have hd1 : decide ((j : Int) < (x.length : Int)) = true := decide_eq_true (by omega)
            have hd2 : decide (j < x.length) = true := decide_eq_true hlt
            have hd3 : decide ((x.length : Int) ≤ (j : Int)) = false := decide_eq_false (by omega)
            have hd4 : decide (x.length ≤ j) = false := decide_eq_false (by omega)
            have C0 := Aft.cell (B := wr.heap.size) (w := wr) (show b < _ by omega) c0
            have C1 := Aft.cell (B := wr.heap.size) (w := wr) (show b < _ by omega) c1
            have C2 := Aft.cell (B := wr.heap.size) (w := wr) (show b < _ by omega) c2
            have C3 := Aft.cell (B := wr.heap.size) (w := wr) (show b < _ by omega) c3
            have C4 := Aft.cell (B := wr.heap.size) (w := wr) (show b < _ by omega) c4
            have E0 := Aft.cell (B := wr.heap.size) (w := wr) (show b' < _ by omega) e0
            have E1 := Aft.cell (B := wr.heap.size) (w := wr) (show b' < _ by omega) e1
            have E2 := Aft.cell (B := wr.heap.size) (w := wr) (show b' < _ by omega) e2
            have E3 := Aft.cell (B := wr.heap.size) (w := wr) (show b' < _ by omega) e3
            have E4 := Aft.cell (B := wr.heap.size) (w := wr) (show b' < _ by omega) e4
            clear hV1 hV2 hU1 hU2 hV1' hV2' hU1' hU2' hb hb' c0 c1 c2 c3 c4 e0 e1 e2 e3 e4
            go_upto_region 15 with fail
            refine wp_region_aft (Below.refl wr.heap.size wr) (by kernel_rfl) (by kernel_rfl) ?_
            iterate 16 (go_big_quiet_step (first | (go_at_call 18; exact calls_aft (Nat.le_refl _) (heq _))))
            refine wpQuiet_nil ?_
            refine aft_end ?_
            intro w9 hb9
            go_wp2
            exact ⟨⟨j + 1, by omega, by go_num, hW.trans (hb9.mono hz)⟩, by simp [intOf]; omega⟩
          · obtain rfl : j = x.length := by omega
            have hd1 : decide ((x.length : Int) < (x.length : Int)) = false := decide_eq_false (by omega)
            go_wp2
            go_ret
            exact ⟨rfl, HB.out.trans (hW.mono HB.out.size)⟩

end Go.Proofs.YtmecdjincmkofaaGreatDoor
