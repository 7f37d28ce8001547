/-
  Walks and plain lemmas for the laws of this seat: what single Go functions return, for every argument.
-/
import Derived.Test.YtmecdjincmkofaaGreatDoorFmt
import Derived.Test.YtmecdjincmkofaaGreatDoorNum
import Derived.Test.YtmecdjincmkofaaGreatDoorPlan
import Derived.Test.YtmecdjincmkofaaGreatDoorFact
import Derived.Test.YtmecdjincmkofaaGreatDoorSubsV
import Derived.Test.YtmecdjincmkofaaGreatDoorSubsVI
import Derived.Test.YtmecdjincmkofaaGreatDoorFmtV
namespace Go.Proofs.YtmecdjincmkofaaGreatDoor
open Go.RowKit

theorem specNullValue_atF (k q : Int) (hq : -1 - k = q) (w : World) (h0 : -9223372036854775808 ≤ k) (h1 : k ≤ 9223372036854775807) :
    Calls Tryz.prog 148 #[.int .i64 k] w fun e w' => e = .returned (.int .i64 q) ∧ w = w' := by
  subst hq; exact specNullValue_any k w h0 h1
set_option maxHeartbeats 3200000 in
set_option maxRecDepth 100000 in
theorem specFormatSubstitution_any (v : Value) (x : Sbst) (w : World) (h : Substitution_at w w.heap.size v x) (hw : Substitution_wf x) :
    Calls Tryz.prog 68 #[v] w fun e w' => e = .returned (.string ⟨(fmtS x).toArray⟩) ∧ Below w.heap.size w w' := by
  obtain ⟨P, c, Q, d, rfl⟩ := Substitution_form h
  have HX := Lib.hid h
  obtain ⟨V1, V2, hv, hN, hU⟩ := h
  simp only [Value.agg.injEq, Array.mk.injEq, List.cons.injEq, and_true] at hv
  obtain ⟨rfl, rfl⟩ := hv
  obtain ⟨_, _, hv1, hc1, hc2⟩ := hN.form
  injection hv1 with e1 _ e2
  subst e1 e2
  obtain ⟨_, _, hv2, hd1, hd2⟩ := hU.form
  injection hv2 with e1 _ e2
  subst e1 e2
  unfold maxLen at hc2 hd2
  have HNl := Lib.hid hN
  have HUl := Lib.hid hU
  clear hN hU
  obtain ⟨E, hEq⟩ : ∃ E, E = w.alloc (.cells #[.slice P x.nulls.length c, .slice Q x.vals.length d] 81) := ⟨_, rfl⟩
  have hE : Below w.heap.size w E := by rw [hEq]; exact (Below.refl _ _).alloc (Nat.le_refl _) _
  have HEz := Lib.hid (show w.heap.size + 1 = E.heap.size by rw [hEq]; simp)
  have K0 := Lib.hid (show E.cell? ⟨w.heap.size, 0, none⟩ = some (.slice P x.nulls.length c) by rw [hEq]; simp [go_sem])
  have K1 := Lib.hid (show E.cell? ⟨w.heap.size, 1, none⟩ = some (.slice Q x.vals.length d) by rw [hEq]; simp [go_sem])
  have hcon := fun (bb : Bool) (hq : subOk x = bb) (W : World) (hb : Below w.heap.size w W) => specIsValidSub_at x bb hq _ W (HX.out.later hb) hw
  cases ho : subOk x with
  | false =>
    have HV := Lib.hid (fmtS_no ho)
    replace hcon := hcon false ho
    clear ho
    go_enter Tryz.func68, Tryz.ntmps68
    go_wp2
    rw [← hEq]
    clear hEq
    go_loopw [3, 4] (fun t i wr => i = .int .i64 0 ∧ t = .string ⟨#[]⟩ ∧ Below E.heap.size E wr) (fun _ _ _ => 0)
    case atStart => exact ⟨rfl, rfl, Below.refl _ _⟩
    case round =>
      obtain ⟨rfl, rfl, hW⟩ := hrel
      have hWw := hE.trans (hW.mono hE.size)
      have f0 := (hW.cell (p := ⟨w.heap.size, 0, none⟩) (by show w.heap.size < _; have := HEz.out; omega)).trans K0.out
      have f1 := (hW.cell (p := ⟨w.heap.size, 1, none⟩) (by show w.heap.size < _; have := HEz.out; omega)).trans K1.out
      by_cases hn : 0 < x.nulls.length
      · go_wp2_with (go_at_call 66; refine (hcon _ hWw).mono ?_; rintro e w1 ⟨rfl, hb1⟩)
        go_ret
        exact ⟨ret_str (by rw [HV.out]), hWw.trans (hb1.mono hWw.size)⟩
      · go_wp2
        go_ret
        exact ⟨ret_str (by rw [HV.out]), hWw⟩
  | true =>
    have HO := Lib.hid ho
    replace hcon := hcon true ho
    have hl40 := subOk_len40 ho
    have HV := Lib.hid (fmtS_yes ho)
    clear ho
    have HL := Lib.hid (subOk_parts HO.out).len
    have h32 : ByteArray.size ⟨#[32]⟩ = 1 := rfl
    have h61 : ByteArray.size ⟨#[61]⟩ = 1 := rfl
    go_enter Tryz.func68, Tryz.ntmps68
    go_wp2
    rw [← hEq]
    clear hEq
    go_loopw [3, 4] (fun t i wr => ∃ k : Nat, k ≤ x.nulls.length ∧ i = .int .i64 k ∧ t = .string ⟨(joinS x k).toArray⟩ ∧ Below E.heap.size E wr) (fun _ i _ => x.nulls.length - (intOf i).toNat)
    case atStart => exact ⟨0, by omega, rfl, rfl, Below.refl _ _⟩
    case round =>
      obtain ⟨k, hk, rfl, rfl, hW⟩ := hrel
      have hWw := hE.trans (hW.mono hE.size)
      have f0 := (hW.cell (p := ⟨w.heap.size, 0, none⟩) (by show w.heap.size < _; have := HEz.out; omega)).trans K0.out
      have f1 := (hW.cell (p := ⟨w.heap.size, 1, none⟩) (by show w.heap.size < _; have := HEz.out; omega)).trans K1.out
      by_cases hlt : k < x.nulls.length
      · have hlt2 : k < x.vals.length := by have := HL.out; omega
        have hn0 := (subOk_parts HO.out).bd k hlt
        have hu0 := hw.2 k hlt2
        have HS := Lib.hid (joinS_succ k hlt HL.out)
        have hsz : ByteArray.size ⟨(joinS x k).toArray⟩ ≤ 320 := by rw [size_mk]; have := joinS_len HL.out k hk; omega
        obtain ⟨b, off, rfl, hb, c0⟩ := IntsAt.elem HNl.out k hlt
        obtain ⟨b', off', rfl, hb', d0⟩ := IntsAt.elem HUl.out k hlt2
        have C0 := Lib.hid c0
        have D0 := Lib.hid d0
        clear c0 d0
        go_wp2_with fail
        refine (hcon _ hWw).mono ?_
        rintro e w1 ⟨rfl, hb1⟩
        have hW1 := hW.trans (hb1.mono hW.size)
        have hWw1 := hWw.trans (hb1.mono hWw.size)
        have hz1 : w.heap.size < w1.heap.size := by have h1 := hW1.size; have := HEz.out; omega
        have G0 := Aft.cell (B := w1.heap.size) (w := w1) hz1 ((hb1.cell (p := ⟨w.heap.size, 0, none⟩) (by show w.heap.size < _; have h1 := hW.size; have := HEz.out; omega)).trans f0)
        have G1 := Aft.cell (B := w1.heap.size) (w := w1) hz1 ((hb1.cell (p := ⟨w.heap.size, 1, none⟩) (by show w.heap.size < _; have h1 := hW.size; have := HEz.out; omega)).trans f1)
        have G2 := Aft.cell (B := w1.heap.size) (w := w1) (show b < _ by omega) ((hWw1.cell (p := ⟨b, off + k, none⟩) hb).trans C0.out)
        have G3 := Aft.cell (B := w1.heap.size) (w := w1) (show b' < _ by omega) ((hWw1.cell (p := ⟨b', off' + k, none⟩) hb').trans D0.out)
        obtain ⟨n0, hn1⟩ : ∃ n0, -1 - x.nulls[k] = n0 := ⟨_, rfl⟩
        have hnv := fun W => specNullValue_atF x.nulls[k] n0 hn1 W (by omega) (by omega)
        have hf1 := fun W => specFormatValue_any n0 W (by omega) (by omega)
        have hf2 := fun W => specFormatValue_any x.vals[k] W hu0.1 hu0.2
        have hs1 : ByteArray.size ⟨(fmtV n0).toArray⟩ ≤ 3 := by rw [size_mk]; exact fmtV_len _
        have hs2 : ByteArray.size ⟨(fmtV x.vals[k]).toArray⟩ ≤ 3 := by rw [size_mk]; exact fmtV_len _
        have HPc := Lib.hid (show pieceS x.nulls[k] x.vals[k] = (fmtV n0 ++ [61]) ++ fmtV x.vals[k] by unfold pieceS; rw [hn1])
        clear hcon f0 f1 hn1 hn0 hu0
        rcases Nat.eq_zero_or_pos k with h0 | h0
        · have hg1 : decide ((0 : Int) < (k : Int)) = false := decide_eq_false (by omega)
          have hg2 : decide (0 < k) = false := decide_eq_false (by omega)
          have HS' := Lib.hid (show (((⟨(joinS x k).toArray⟩ : ByteArray) ++ ⟨(fmtV n0).toArray⟩) ++ ⟨#[61]⟩) ++ ⟨(fmtV x.vals[k]).toArray⟩ = ⟨(joinS x (k + 1)).toArray⟩ by
            rw [HS.out, HPc.out, if_pos h0, show (⟨#[61]⟩ : ByteArray) = ⟨([61] : List UInt8).toArray⟩ from rfl, mk_app, mk_app, mk_app]; simp)
          clear h0
          generalize (⟨(joinS x k).toArray⟩ : ByteArray) = J at *
          generalize (⟨(fmtV n0).toArray⟩ : ByteArray) = I1 at *
          generalize (⟨(fmtV x.vals[k]).toArray⟩ : ByteArray) = I2 at *
          go_wp2
          refine wp_region_aft (Below.refl w1.heap.size w1) (by kernel_rfl) (by kernel_rfl) ?_
          repeat (go_big_quiet_step (first | (go_at_call 148; exact calls_aft_same (hnv _)) | (go_at_call 150; with_reducible exact calls_aft (Nat.le_refl _) (hf1 _)) | (go_at_call 150; with_reducible exact calls_aft (Nat.le_refl _) (hf2 _))))
          refine wpQuiet_nil ?_
          refine aft_end ?_
          intro w2 hh
          clear G0 G1 G2 G3
          go_wp2
          go_roundw
          case rel => exact ⟨k + 1, by omega, by go_num, by rw [← HS'.out], hW1.trans (hh.mono hW1.size)⟩
          case measure => simp [intOf]; omega
        · have hg1 : decide ((0 : Int) < (k : Int)) = true := decide_eq_true (by omega)
          have hg2 : decide (0 < k) = true := decide_eq_true (by omega)
          have HS' := Lib.hid (show ((((⟨(joinS x k).toArray⟩ : ByteArray) ++ ⟨#[32]⟩) ++ ⟨(fmtV n0).toArray⟩) ++ ⟨#[61]⟩) ++ ⟨(fmtV x.vals[k]).toArray⟩ = ⟨(joinS x (k + 1)).toArray⟩ by
            rw [HS.out, HPc.out, if_neg (by omega), show (⟨#[61]⟩ : ByteArray) = ⟨([61] : List UInt8).toArray⟩ from rfl, show (⟨#[32]⟩ : ByteArray) = ⟨([32] : List UInt8).toArray⟩ from rfl, mk_app, mk_app, mk_app, mk_app]; simp)
          clear h0
          generalize (⟨(joinS x k).toArray⟩ : ByteArray) = J at *
          generalize (⟨(fmtV n0).toArray⟩ : ByteArray) = I1 at *
          generalize (⟨(fmtV x.vals[k]).toArray⟩ : ByteArray) = I2 at *
          go_wp2
          refine wp_region_aft (Below.refl w1.heap.size w1) (by kernel_rfl) (by kernel_rfl) ?_
          repeat (go_big_quiet_step (first | (go_at_call 148; exact calls_aft_same (hnv _)) | (go_at_call 150; with_reducible exact calls_aft (Nat.le_refl _) (hf1 _)) | (go_at_call 150; with_reducible exact calls_aft (Nat.le_refl _) (hf2 _))))
          refine wpQuiet_nil ?_
          refine aft_end ?_
          intro w2 hh
          clear G0 G1 G2 G3
          go_wp2
          go_roundw
          case rel => exact ⟨k + 1, by omega, by go_num, by rw [← HS'.out], hW1.trans (hh.mono hW1.size)⟩
          case measure => simp [intOf]; omega
      · obtain rfl : k = x.nulls.length := by omega
        have HE := Lib.hid (show joinS x x.nulls.length = fmtS x by rw [HV.out, joinS_all HL.out])
        go_wp2
        go_ret
        exact ⟨ret_str (by rw [HE.out]), hWw⟩
theorem specFormatSubstitution_c (v : Value) (x : Sbst) (w : World) (h : Substitution_at w w.heap.size v x) (hw : Substitution_wf x) (_ : Substitution_sz x ≤ 1048576) :
    Calls Tryz.prog 68 #[v] w fun e w' => e = .returned (.string ⟨(fmtS x).toArray⟩) ∧ Below w.heap.size w w' := specFormatSubstitution_any v x w h hw

set_option maxHeartbeats 800000 in
theorem implFormatValue_any (v : Int) (w : World) (h0 : -9223372036854775808 ≤ v) (h1 : v ≤ 9223372036854775807) (ht : Tab w) :
    Calls Tryz.prog 106 #[.int .i64 v] w fun e w' => e = .returned (.string ⟨(fmtV v).toArray⟩) ∧ Below w.heap.size w w' := by
  by_cases hv : -40 ≤ v ∧ v < 0
  · have hr : nullNum v = (-1 - v, true) := nullNum_yes v hv
    have hval : validV v = true := decide_eq_true (by omega)
    rw [fmtV_null v hv]
    have hj := strOne 110 _ _ (rfl : (⟨(Lib.itoa (-1 - v)).toArray⟩ : ByteArray) = _)
    obtain ⟨ha, hb⟩ := hv
    obtain ⟨u, hu⟩ := Int.eq_ofNat_of_zero_le (a := -1 - v) (by omega)
    have hsz : ByteArray.size ⟨(Lib.itoa (-1 - v)).toArray⟩ ≤ 2 := by
      rw [ByteArray.size, List.size_toArray, hu]; exact itoa_short u (by omega)
    clear hu
    have hs1 : ByteArray.size ⟨#[110]⟩ = 1 := rfl
    go_enter Tryz.func106, Tryz.ntmps106
    go_wp2_with (first | (go_at_call 119; refine (implIsValidValue_any _ _ h0 h1).mono ?_; rintro e w' ⟨rfl, rfl⟩) | (go_at_call 188; refine (implNullNumber_any _ _ h0 h1).mono ?_; rintro e w' ⟨rfl, rfl⟩) | (go_at_call 183; refine (implFormatInt_any _ _ (by omega) (by omega) ht).mono ?_; rintro e w1 ⟨rfl, hb1⟩))
    go_ret
    exact ⟨rfl, hb1⟩
  · have hr : nullNum v = (0, false) := nullNum_no v hv
    by_cases hc : 0 ≤ v ∧ v ≤ 9
    · rw [fmtV_const v hc]
      have hval : validV v = true := decide_eq_true (by omega)
      go_enter Tryz.func106, Tryz.ntmps106
      go_wp2_with (first | (go_at_call 119; refine (implIsValidValue_any _ _ h0 h1).mono ?_; rintro e w' ⟨rfl, rfl⟩) | (go_at_call 188; refine (implNullNumber_any _ _ h0 h1).mono ?_; rintro e w' ⟨rfl, rfl⟩) | (go_at_call 183; refine (implFormatInt_any _ _ (by omega) (by omega) ht).mono ?_; rintro e w1 ⟨rfl, hb1⟩))
      go_ret
      exact ⟨rfl, hb1⟩
    · rw [fmtV_no v (by omega)]
      have hval : validV v = false := decide_eq_false (by omega)
      go_enter Tryz.func106, Tryz.ntmps106
      go_wp2_with (first | (go_at_call 119; refine (implIsValidValue_any _ _ h0 h1).mono ?_; rintro e w' ⟨rfl, rfl⟩))
      go_ret
      exact ⟨rfl, Below.refl _ _⟩

theorem implNullValue_atF (k q : Int) (hq : -1 - k = q) (w : World) (h0 : -9223372036854775808 ≤ k) (h1 : k ≤ 9223372036854775807) :
    Calls Tryz.prog 145 #[.int .i64 k] w fun e w' => e = .returned (.int .i64 q) ∧ w = w' := by
  subst hq; exact implNullValue_any k w h0 h1
set_option maxHeartbeats 3200000 in
set_option maxRecDepth 100000 in
theorem implFormatSubstitution_any (v : Value) (x : Sbst) (w : World) (h : Substitution_at w w.heap.size v x) (hw : Substitution_wf x) (ht : Tab w) :
    Calls Tryz.prog 67 #[v] w fun e w' => e = .returned (.string ⟨(fmtS x).toArray⟩) ∧ Below w.heap.size w w' := by
  obtain ⟨P, c, Q, d, rfl⟩ := Substitution_form h
  have HX := Lib.hid h
  obtain ⟨V1, V2, hv, hN, hU⟩ := h
  simp only [Value.agg.injEq, Array.mk.injEq, List.cons.injEq, and_true] at hv
  obtain ⟨rfl, rfl⟩ := hv
  obtain ⟨_, _, hv1, hc1, hc2⟩ := hN.form
  injection hv1 with e1 _ e2
  subst e1 e2
  obtain ⟨_, _, hv2, hd1, hd2⟩ := hU.form
  injection hv2 with e1 _ e2
  subst e1 e2
  unfold maxLen at hc2 hd2
  have HNl := Lib.hid hN
  have HUl := Lib.hid hU
  clear hN hU
  obtain ⟨E, hEq⟩ : ∃ E, E = w.alloc (.cells #[.slice P x.nulls.length c, .slice Q x.vals.length d] 81) := ⟨_, rfl⟩
  have hE : Below w.heap.size w E := by rw [hEq]; exact (Below.refl _ _).alloc (Nat.le_refl _) _
  have HEz := Lib.hid (show w.heap.size + 1 = E.heap.size by rw [hEq]; simp)
  have K0 := Lib.hid (show E.cell? ⟨w.heap.size, 0, none⟩ = some (.slice P x.nulls.length c) by rw [hEq]; simp [go_sem])
  have K1 := Lib.hid (show E.cell? ⟨w.heap.size, 1, none⟩ = some (.slice Q x.vals.length d) by rw [hEq]; simp [go_sem])
  have hcon := fun (bb : Bool) (hq : subOk x = bb) => implIsValidSub_at x bb hq _ E (HX.out.later hE) hw
  rw [hEq] at hcon
  cases ho : subOk x with
  | false =>
    have HV := Lib.hid (fmtS_no ho)
    replace hcon := hcon false ho
    clear ho
    go_enter Tryz.func67, Tryz.ntmps67
    go_wp2_with (go_at_call 65; refine hcon.mono ?_; rintro e w1 ⟨rfl, hb1⟩)
    go_ret
    rw [← hEq] at hb1
    exact ⟨ret_str (by rw [HV.out]), hE.trans (hb1.mono hE.size)⟩
  | true =>
    have HO := Lib.hid ho
    replace hcon := hcon true ho
    have hl40 := subOk_len40 ho
    have HV := Lib.hid (fmtS_yes ho)
    clear ho
    have HL := Lib.hid (subOk_parts HO.out).len
    have HPL := Lib.hid (piecesS_len HL.out)
    have h61 : ByteArray.size ⟨#[61]⟩ = 1 := rfl
    have hmk := fun w => make_strs w x.nulls.length x.nulls.length (Nat.le_refl _) (by omega)
    go_enter Tryz.func67, Tryz.ntmps67
    go_wp2_with fail
    refine hcon.mono ?_
    rintro e w1 ⟨rfl, hb1⟩
    rw [← hEq] at hb1
    clear hEq hcon
    have hz1 : w.heap.size < w1.heap.size := by have h1 := hb1.size; have := HEz.out; omega
    have hW1 : Below w.heap.size w w1 := hE.trans (hb1.mono hE.size)
    have hm1 : Below w1.heap.size w1 (w1.alloc (.cells (madeCells #[.string ByteArray.empty] x.nulls.length) 9)) := (Below.refl _ _).alloc (Nat.le_refl _) _
    have k0 := (hb1.cell (p := ⟨w.heap.size, 0, none⟩) (by show w.heap.size < _; have := HEz.out; omega)).trans K0.out
    have k0' := (hm1.cell (p := ⟨w.heap.size, 0, none⟩) hz1).trans k0
    have K1' := Lib.hid ((hb1.cell (p := ⟨w.heap.size, 1, none⟩) (by show w.heap.size < _; have := HEz.out; omega)).trans K1.out)
    go_wp2
    clear hmk k0 k0'
    go_loopw [16] (fun i wr => ∃ j : Nat, j ≤ x.nulls.length ∧ i = .int .i64 j ∧ OwnStrs w1.heap.size (.slice (some ⟨w1.heap.size, 0, none⟩) x.nulls.length x.nulls.length) (((piecesS x).take j).map pieceB ++ List.replicate (x.nulls.length - j) ByteArray.empty) wr ∧ Below w1.heap.size w1 wr) (fun i _ => x.nulls.length - (intOf i).toNat)
    case atStart => exact ⟨0, by omega, rfl, by simpa using OwnStrs.full w1 _ (by omega) _ (Nat.le_refl _), (Below.refl _ _).alloc (Nat.le_refl _) _⟩
    case round =>
      obtain ⟨j, hj, rfl, hO, hW⟩ := hrel
      have hz := hW.size
      have hWw := hW1.trans (hW.mono hW1.size)
      by_cases hlt : j < x.nulls.length
      · have hlt2 : j < x.vals.length := by have := HL.out; omega
        have hn0 := (subOk_parts HO.out).bd j hlt
        have hu0 := hw.2 j hlt2
        obtain ⟨b, off, rfl, hb, c0⟩ := IntsAt.elem HNl.out j hlt
        obtain ⟨b', off', rfl, hb', d0⟩ := IntsAt.elem HUl.out j hlt2
        replace c0 := (hWw.cell (p := ⟨b, off + j, none⟩) hb).trans c0
        have hlen : (((piecesS x).take j).map pieceB ++ List.replicate (x.nulls.length - j) ByteArray.empty).length = x.nulls.length := by have := HPL.out; simp; omega
        have HLen := Lib.hid hlen
        have hjl : j < (((piecesS x).take j).map pieceB ++ List.replicate (x.nulls.length - j) ByteArray.empty).length := by omega
        have HJL := Lib.hid hjl
        have HO1 := Lib.hid hO
        obtain ⟨n0, hn1⟩ : ∃ n0, -1 - x.nulls[j] = n0 := ⟨_, rfl⟩
        have HNV := Lib.hid (fun W => implNullValue_atF x.nulls[j] n0 hn1 W (by omega) (by omega))
        have HF1 := Lib.hid (fun W (hb : Below wr.heap.size wr W) => implFormatValue_any n0 W (by omega) (by omega) (ht.below (hWw.trans (hb.mono hWw.size))))
        have HF2 := Lib.hid (fun W (hb : Below wr.heap.size wr W) => implFormatValue_any x.vals[j] W hu0.1 hu0.2 (ht.below (hWw.trans (hb.mono hWw.size))))
        have hs1 : ByteArray.size ⟨(fmtV n0).toArray⟩ ≤ 3 := by rw [size_mk]; exact fmtV_len _
        have hs2 : ByteArray.size ⟨(fmtV x.vals[j]).toArray⟩ ≤ 3 := by rw [size_mk]; exact fmtV_len _
        have HPc := Lib.hid (show ((⟨(fmtV n0).toArray⟩ : ByteArray) ++ ⟨#[61]⟩) ++ ⟨(fmtV x.vals[j]).toArray⟩ = pieceB ((piecesS x)[j]'(by rw [HPL.out]; exact hlt)) by
          rw [piecesS_at j (by rw [HPL.out]; exact hlt) hlt hlt2, show (⟨#[61]⟩ : ByteArray) = ⟨([61] : List UInt8).toArray⟩ from rfl, mk_app, mk_app]; unfold pieceB pieceS; rw [hn1])
        have HSet := Lib.hid (take_empty_setS (piecesS x) x.nulls.length j HPL.out (by rw [HPL.out]; exact hlt))
        have hS : Holds [(⟨w.heap.size, 1, none⟩, .slice (some ⟨b', off', none⟩) x.vals.length d), (⟨b', off' + j, none⟩, .int .i64 x.vals[j])] wr.drew := by
          intro p hp
          simp only [List.mem_cons, List.not_mem_nil, or_false] at hp
          rcases hp with rfl | rfl
          · exact (hW.cell (p := ⟨w.heap.size, 1, none⟩) hz1).trans K1'.out
          · exact (hWw.cell (p := ⟨b', off' + j, none⟩) hb').trans d0
        have hSb : ∀ p ∈ [((⟨w.heap.size, 1, none⟩ : Addr), Value.slice (some ⟨b', off', none⟩) x.vals.length d), (⟨b', off' + j, none⟩, .int .i64 x.vals[j])], p.1.block < wr.heap.size := by
          intro p hp
          simp only [List.mem_cons, List.not_mem_nil, or_false] at hp
          rcases hp with rfl | rfl <;> simp <;> omega
        have g0 := Keep.cell (h0 := hS) (a := ⟨w.heap.size, 1, none⟩) (v := .slice (some ⟨b', off', none⟩) x.vals.length d) (by simp)
        have g1 := Keep.cell (h0 := hS) (a := ⟨b', off' + j, none⟩) (v := .int .i64 x.vals[j]) (by simp)
        clear hlen hjl hO hn1 hn0 hu0 d0
        generalize (⟨(fmtV n0).toArray⟩ : ByteArray) = I1 at *
        generalize (⟨(fmtV x.vals[j]).toArray⟩ : ByteArray) = I2 at *
        go_wp2_with fail
        refine wp_region_planL (C := fun w' => ∃ u : Keep _ wr.drew hS, w' = u.now) (.still 0 (.still 1 (.still 2 (.still 6 (.still 7 (.still 8 (.still 9 (.still 10 (.still 13 (.move true 3 (.move true 4 (.move true 11 (.still 5 (.still 12 (.move false 14 .done .none))) .none) .none) .none)))))))))) (by kernel_rfl) (by kernel_rfl) (by kernel_rfl) (fun _ => ⟨⟨_, hS⟩, rfl⟩) ?_
        iterate 9
          refine plan_look _ rfl rfl ?_
          go_big_quiet_step (fail)
          refine wpQuiet_nil ?_
        refine plan_call _ 145 _ _ _ _ _ rfl _ Tryz.func145 (by kernel_rfl) (by kernel_rfl) ?_ True.intro
        refine (HNV.out wr.drew).mono ?_
        rintro _ _ ⟨rfl, rfl⟩
        refine ⟨_, rfl, fun _ => ⟨⟨_, hS⟩, rfl⟩, ?_⟩
        refine plan_put ?_ (by simp only [Act.put, List.setIfInBounds_toArray, List.set_cons_succ, List.set_cons_zero]; rfl)
        refine plan_call _ 106 _ _ _ _ _ rfl _ Tryz.func106 (by kernel_rfl) (by kernel_rfl) ?_ True.intro
        refine (HF1.out wr.drew (Below.refl _ _).drew).mono ?_
        rintro _ w3 ⟨rfl, hb3⟩
        have hb3' : Below wr.heap.size wr w3 := (Below.refl _ _).drew.trans hb3
        refine ⟨_, rfl, fun _ => ⟨⟨_, hS.below hb3 hSb⟩, rfl⟩, ?_⟩
        refine plan_put ?_ (by simp only [Act.put, List.setIfInBounds_toArray, List.set_cons_succ, List.set_cons_zero]; rfl)
        refine plan_call _ 106 _ _ _ _ _ rfl _ Tryz.func106 (by kernel_rfl) (by kernel_rfl) ?_ True.intro
        refine (HF2.out w3 hb3').mono ?_
        rintro _ w4 ⟨rfl, hb4⟩
        have hb4' : Below wr.heap.size wr w4 := hb3'.trans (hb4.mono hb3'.size)
        have hb4d := hb3.trans (hb4.mono hb3.size)
        refine ⟨_, rfl, fun _ => ⟨⟨_, hS.below hb4d hSb⟩, rfl⟩, ?_⟩
        refine plan_put ?_ (by simp only [Act.put, List.setIfInBounds_toArray, List.set_cons_succ, List.set_cons_zero]; rfl)
        have hO4 := HO1.out.below hb4' (Nat.le_refl _)
        have hd := hO4.cell HLen.out j HJL.out
        have hfz := hO4.frozen HLen.out
        have HS4 := Lib.hid (hO4.set HLen.out j ((I1 ++ ⟨#[61]⟩) ++ I2))
        have HB4 := Lib.hid hb4'
        clear hO4 hb4' hb3 hb3' hb4 hb4d g0 g1
        refine plan_look _ rfl rfl ?_
        go_big_quiet_step (fail)
        refine wpQuiet_nil ?_
        refine plan_look _ rfl rfl ?_
        go_big_quiet_step (fail)
        refine wpQuiet_nil ?_
        refine plan_skip (w' := w4.setCell ⟨w1.heap.size, j, none⟩ (.string ((I1 ++ ⟨#[61]⟩) ++ I2))) _ rfl rfl rfl (by simp [go_sem, hd, hfz]) (fun e => by cases e) ?_ True.intro
        refine plan_put ?_ (by simp only [Act.put]; rfl)
        refine plan_done ?_
        go_wp2
        go_roundw
        case rel => exact ⟨j + 1, by omega, by go_num, by rw [← HSet.out, ← HPc.out]; exact HS4.out, (hW.trans (HB4.out.mono hz)).setCell (Nat.le_refl _) _⟩
        case measure => simp [intOf]; omega
      · obtain rfl : j = x.nulls.length := by omega
        have hO' : OwnStrs w1.heap.size (.slice (some ⟨w1.heap.size, 0, none⟩) x.nulls.length x.nulls.length) ((piecesS x).map pieceB) wr := by
          have := hO
          rw [List.take_of_length_le (by rw [HPL.out]; exact Nat.le_refl _), Nat.sub_self, List.replicate_zero, List.append_nil] at this
          exact this
        have HE := Lib.hid (show (⟨(Lib.join (piecesS x) [32]).toArray⟩ : ByteArray) = ⟨(fmtS x).toArray⟩ by rw [HV.out])
        have hjl := joinS_len HL.out x.nulls.length (Nat.le_refl _)
        rw [joinS_all HL.out] at hjl
        have hjn := Tryz.strings_Join w1.heap.size 0 x.nulls.length ((piecesS x).map pieceB) ⟨#[32]⟩ wr (by
          intro i y hy
          have hi := (List.getElem?_eq_some_iff.1 hy).1
          rw [Nat.zero_add, hO'.cell (by simp; exact HPL.out) i hi, ← (List.getElem?_eq_some_iff.1 hy).2]) (World.ownsRow.lt hO' w1.heap.size rfl).2 (by simp; have := HPL.out; omega) (by simp; have := HPL.out; omega) (by rw [show (⟨#[32]⟩ : ByteArray).data.toList = [32] from rfl, join_pieceB]; omega)
        rw [show (⟨#[32]⟩ : ByteArray).data.toList = [32] from rfl, join_pieceB, List.length_map, HPL.out] at hjn
        clear hO hO'
        go_wp2_with (go_at_call 76; refine hjn.mono ?_; rintro e w2 ⟨rfl, hb2⟩)
        go_ret
        exact ⟨ret_str HE.out, hWw.trans (hb2.mono hWw.size)⟩
theorem implFormatSubstitution_c (v : Value) (x : Sbst) (w : World) (h : Substitution_at w w.heap.size v x) (hw : Substitution_wf x) (_ : Substitution_sz x ≤ 1048576) (ht : Tab w) :
    Calls Tryz.prog 67 #[v] w fun e w' => e = .returned (.string ⟨(fmtS x).toArray⟩) ∧ Below w.heap.size w w' := implFormatSubstitution_any v x w h hw ht

end Go.Proofs.YtmecdjincmkofaaGreatDoor
