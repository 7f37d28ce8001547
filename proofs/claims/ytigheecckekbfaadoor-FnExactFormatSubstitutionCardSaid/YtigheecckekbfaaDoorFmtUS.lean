/-
  Walks and plain lemmas for the laws of this seat: what single Go functions return, for every argument.
-/
import Derived.Test.YtigheecckekbfaaDoorNum
import Derived.Test.YtigheecckekbfaaDoorAft
import Derived.Test.YtigheecckekbfaaDoorSubsV
import Derived.Test.YtigheecckekbfaaDoorFmtV
import Derived.Test.YtigheecckekbfaaDoorMFmtU
namespace Go.Proofs.YtigheecckekbfaaDoor
open Go.RowKit

theorem specNullValue_at (k q : Int) (hq : -1 - k = q) (w : World) (h0 : -9223372036854775808 ≤ k) (h1 : k ≤ 9223372036854775807) :
    Calls Tryd.prog 12 #[.int .i64 k] w fun e w' => e = .returned (.int .i64 q) ∧ w = w' := by
  subst hq; exact specNullValue_any k w h0 h1
set_option maxHeartbeats 3200000 in
set_option maxRecDepth 100000 in
theorem specFormatSubstitution_any (v : Value) (x : Sbst) (w : World) (h : Substitution_at w w.heap.size v x) (hw : Substitution_wf x) :
    Calls Tryd.prog 5 #[v] w fun e w' => e = .returned (.string ⟨(fmtS x).toArray⟩) ∧ Below w.heap.size w w' := by
  obtain ⟨P, c, Q, d, rfl⟩ := Substitution_form h
  have HX := Lib.hid h
  obtain ⟨V1, V2, hv, hN, hU⟩ := h
  simp only [Value.agg.injEq, Array.mk.injEq, List.cons.injEq, and_true] at hv
  obtain ⟨rfl, rfl⟩ := hv
  obtain ⟨_, _, hv1, hc1, hc2⟩ := hN.form
  injection hv1 with e1 _ e2
  subst e1 e2
  obtain ⟨_, _, hv2, hd1, hd2⟩ := hU.form
  injection hv2 with e1 _ e2
  subst e1 e2
  unfold maxLen at hc2 hd2
  have HNl := Lib.hid hN
  have HUl := Lib.hid hU
  clear hN hU
  obtain ⟨E, hEq⟩ : ∃ E, E = w.alloc (.cells #[.slice P x.nulls.length c, .slice Q x.vals.length d] 27) := ⟨_, rfl⟩
  have hE : Below w.heap.size w E := by rw [hEq]; exact (Below.refl _ _).alloc (Nat.le_refl _) _
  have HEz := Lib.hid (show w.heap.size + 1 = E.heap.size by rw [hEq]; simp)
  have K0 := Lib.hid (show E.cell? ⟨w.heap.size, 0, none⟩ = some (.slice P x.nulls.length c) by rw [hEq]; simp [go_sem])
  have K1 := Lib.hid (show E.cell? ⟨w.heap.size, 1, none⟩ = some (.slice Q x.vals.length d) by rw [hEq]; simp [go_sem])
  have hcon := fun (bb : Bool) (hq : subOk x = bb) (W : World) (hb : Below w.heap.size w W) => specIsValidSub_at x bb hq _ W (HX.out.later hb) hw
  cases ho : subOk x with
  | false =>
    have HV := Lib.hid (fmtS_no ho)
    replace hcon := hcon false ho
    clear ho
    go_enter Tryd.func5, Tryd.ntmps5
    go_wp2
    rw [← hEq]
    clear hEq
    go_loopw [3, 4] (fun t i wr => i = .int .i64 0 ∧ t = .string ⟨#[]⟩ ∧ Below E.heap.size E wr) (fun _ _ _ => 0)
    case atStart => exact ⟨rfl, rfl, Below.refl _ _⟩
    case round =>
      obtain ⟨rfl, rfl, hW⟩ := hrel
      have hWw := hE.trans (hW.mono hE.size)
      have f0 := (hW.cell (p := ⟨w.heap.size, 0, none⟩) (by show w.heap.size < _; have := HEz.out; omega)).trans K0.out
      have f1 := (hW.cell (p := ⟨w.heap.size, 1, none⟩) (by show w.heap.size < _; have := HEz.out; omega)).trans K1.out
      by_cases hn : 0 < x.nulls.length
      · go_wp2_with (go_at_call 10; refine (hcon _ hWw).mono ?_; rintro e w1 ⟨rfl, hb1⟩)
        go_ret
        exact ⟨ret_str (by rw [HV.out]), hWw.trans (hb1.mono hWw.size)⟩
      · go_wp2
        go_ret
        exact ⟨ret_str (by rw [HV.out]), hWw⟩
  | true =>
    have HO := Lib.hid ho
    replace hcon := hcon true ho
    have hl40 := subOk_len40 ho
    have HV := Lib.hid (fmtS_yes ho)
    clear ho
    have HL := Lib.hid (subOk_parts HO.out).len
    have h32 : ByteArray.size ⟨#[32]⟩ = 1 := rfl
    have h61 : ByteArray.size ⟨#[61]⟩ = 1 := rfl
    go_enter Tryd.func5, Tryd.ntmps5
    go_wp2
    rw [← hEq]
    clear hEq
    go_loopw [3, 4] (fun t i wr => ∃ k : Nat, k ≤ x.nulls.length ∧ i = .int .i64 k ∧ t = .string ⟨(joinS x k).toArray⟩ ∧ Below E.heap.size E wr) (fun _ i _ => x.nulls.length - (intOf i).toNat)
    case atStart => exact ⟨0, by omega, rfl, rfl, Below.refl _ _⟩
    case round =>
      obtain ⟨k, hk, rfl, rfl, hW⟩ := hrel
      have hWw := hE.trans (hW.mono hE.size)
      have f0 := (hW.cell (p := ⟨w.heap.size, 0, none⟩) (by show w.heap.size < _; have := HEz.out; omega)).trans K0.out
      have f1 := (hW.cell (p := ⟨w.heap.size, 1, none⟩) (by show w.heap.size < _; have := HEz.out; omega)).trans K1.out
      by_cases hlt : k < x.nulls.length
      · have hlt2 : k < x.vals.length := by have := HL.out; omega
        have hn0 := (subOk_parts HO.out).bd k hlt
        have hu0 := hw.2 k hlt2
        have HS := Lib.hid (joinS_succ k hlt HL.out)
        have hsz : ByteArray.size ⟨(joinS x k).toArray⟩ ≤ 320 := by rw [size_mk]; have := joinS_len HL.out k hk; omega
        obtain ⟨b, off, rfl, hb, c0⟩ := IntsAt.elem HNl.out k hlt
        obtain ⟨b', off', rfl, hb', d0⟩ := IntsAt.elem HUl.out k hlt2
        have C0 := Lib.hid c0
        have D0 := Lib.hid d0
        clear c0 d0
        go_wp2_with fail
        refine (hcon _ hWw).mono ?_
        rintro e w1 ⟨rfl, hb1⟩
        have hW1 := hW.trans (hb1.mono hW.size)
        have hWw1 := hWw.trans (hb1.mono hWw.size)
        have hz1 : w.heap.size < w1.heap.size := by have h1 := hW1.size; have := HEz.out; omega
        have G0 := Aft.cell (B := w1.heap.size) (w := w1) hz1 ((hb1.cell (p := ⟨w.heap.size, 0, none⟩) (by show w.heap.size < _; have h1 := hW.size; have := HEz.out; omega)).trans f0)
        have G1 := Aft.cell (B := w1.heap.size) (w := w1) hz1 ((hb1.cell (p := ⟨w.heap.size, 1, none⟩) (by show w.heap.size < _; have h1 := hW.size; have := HEz.out; omega)).trans f1)
        have G2 := Aft.cell (B := w1.heap.size) (w := w1) (show b < _ by omega) ((hWw1.cell (p := ⟨b, off + k, none⟩) hb).trans C0.out)
        have G3 := Aft.cell (B := w1.heap.size) (w := w1) (show b' < _ by omega) ((hWw1.cell (p := ⟨b', off' + k, none⟩) hb').trans D0.out)
        obtain ⟨n0, hn1⟩ : ∃ n0, -1 - x.nulls[k] = n0 := ⟨_, rfl⟩
        have hnv := fun W => specNullValue_at x.nulls[k] n0 hn1 W (by omega) (by omega)
        have hf1 := fun W => specFormatValue_any n0 W (by omega) (by omega)
        have hf2 := fun W => specFormatValue_any x.vals[k] W hu0.1 hu0.2
        have hs1 : ByteArray.size ⟨(fmtV n0).toArray⟩ ≤ 3 := by rw [size_mk]; exact fmtV_len _
        have hs2 : ByteArray.size ⟨(fmtV x.vals[k]).toArray⟩ ≤ 3 := by rw [size_mk]; exact fmtV_len _
        have HPc := Lib.hid (show pieceS x.nulls[k] x.vals[k] = (fmtV n0 ++ [61]) ++ fmtV x.vals[k] by unfold pieceS; rw [hn1])
        clear hcon f0 f1 hn1 hn0 hu0
        rcases Nat.eq_zero_or_pos k with h0 | h0
        · have hg1 : decide ((0 : Int) < (k : Int)) = false := decide_eq_false (by omega)
          have hg2 : decide (0 < k) = false := decide_eq_false (by omega)
          have HS' := Lib.hid (show (((⟨(joinS x k).toArray⟩ : ByteArray) ++ ⟨(fmtV n0).toArray⟩) ++ ⟨#[61]⟩) ++ ⟨(fmtV x.vals[k]).toArray⟩ = ⟨(joinS x (k + 1)).toArray⟩ by
            rw [HS.out, HPc.out, if_pos h0, show (⟨#[61]⟩ : ByteArray) = ⟨([61] : List UInt8).toArray⟩ from rfl, mk_app, mk_app, mk_app]; simp)
          clear h0
          generalize (⟨(joinS x k).toArray⟩ : ByteArray) = J at *
          generalize (⟨(fmtV n0).toArray⟩ : ByteArray) = I1 at *
          generalize (⟨(fmtV x.vals[k]).toArray⟩ : ByteArray) = I2 at *
          go_wp2
          refine wp_region_aft (Below.refl w1.heap.size w1) (by kernel_rfl) (by kernel_rfl) ?_
          repeat (go_big_quiet_step (first | (go_at_call 12; exact calls_aft_same (hnv _)) | (go_at_call 11; with_reducible exact calls_aft (Nat.le_refl _) (hf1 _)) | (go_at_call 11; with_reducible exact calls_aft (Nat.le_refl _) (hf2 _))))
          refine wpQuiet_nil ?_
          refine aft_end ?_
          intro w2 hh
          clear G0 G1 G2 G3
          go_wp2
          go_roundw
          case rel => exact ⟨k + 1, by omega, by go_num, by rw [← HS'.out], hW1.trans (hh.mono hW1.size)⟩
          case measure => simp [intOf]; omega
        · have hg1 : decide ((0 : Int) < (k : Int)) = true := decide_eq_true (by omega)
          have hg2 : decide (0 < k) = true := decide_eq_true (by omega)
          have HS' := Lib.hid (show ((((⟨(joinS x k).toArray⟩ : ByteArray) ++ ⟨#[32]⟩) ++ ⟨(fmtV n0).toArray⟩) ++ ⟨#[61]⟩) ++ ⟨(fmtV x.vals[k]).toArray⟩ = ⟨(joinS x (k + 1)).toArray⟩ by
            rw [HS.out, HPc.out, if_neg (by omega), show (⟨#[61]⟩ : ByteArray) = ⟨([61] : List UInt8).toArray⟩ from rfl, show (⟨#[32]⟩ : ByteArray) = ⟨([32] : List UInt8).toArray⟩ from rfl, mk_app, mk_app, mk_app, mk_app]; simp)
          clear h0
          generalize (⟨(joinS x k).toArray⟩ : ByteArray) = J at *
          generalize (⟨(fmtV n0).toArray⟩ : ByteArray) = I1 at *
          generalize (⟨(fmtV x.vals[k]).toArray⟩ : ByteArray) = I2 at *
          go_wp2
          refine wp_region_aft (Below.refl w1.heap.size w1) (by kernel_rfl) (by kernel_rfl) ?_
          repeat (go_big_quiet_step (first | (go_at_call 12; exact calls_aft_same (hnv _)) | (go_at_call 11; with_reducible exact calls_aft (Nat.le_refl _) (hf1 _)) | (go_at_call 11; with_reducible exact calls_aft (Nat.le_refl _) (hf2 _))))
          refine wpQuiet_nil ?_
          refine aft_end ?_
          intro w2 hh
          clear G0 G1 G2 G3
          go_wp2
          go_roundw
          case rel => exact ⟨k + 1, by omega, by go_num, by rw [← HS'.out], hW1.trans (hh.mono hW1.size)⟩
          case measure => simp [intOf]; omega
      · obtain rfl : k = x.nulls.length := by omega
        have HE := Lib.hid (show joinS x x.nulls.length = fmtS x by rw [HV.out, joinS_all HL.out])
        go_wp2
        go_ret
        exact ⟨ret_str (by rw [HE.out]), hWw⟩
theorem specFormatSubstitution_c (v : Value) (x : Sbst) (w : World) (h : Substitution_at w w.heap.size v x) (hw : Substitution_wf x) (_ : Substitution_sz x ≤ 1048576) :
    Calls Tryd.prog 5 #[v] w fun e w' => e = .returned (.string ⟨(fmtS x).toArray⟩) ∧ Below w.heap.size w w' := specFormatSubstitution_any v x w h hw

end Go.Proofs.YtigheecckekbfaaDoor
