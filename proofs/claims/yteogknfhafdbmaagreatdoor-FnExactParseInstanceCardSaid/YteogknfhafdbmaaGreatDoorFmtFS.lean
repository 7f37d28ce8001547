/-
  Walks and plain lemmas for the laws of this seat: what single Go functions return, for every argument.
-/
import Derived.Test.YteogknfhafdbmaaGreatDoorFmtV
import Derived.Test.YteogknfhafdbmaaGreatDoorFmtF
import Derived.Test.YteogknfhafdbmaaGreatDoorFactV
namespace Go.Proofs.YteogknfhafdbmaaGreatDoor
open Go.RowKit

/-- the text so far: the name, the parenthesis, the first k values -/
def headF (n : List UInt8) (vs : List Int) (k : Nat) : List UInt8 := n ++ (40 :: joinVals (vs.take k))
theorem headF_zero (n : List UInt8) (vs : List Int) : headF n vs 0 = n ++ [40] := rfl
theorem headF_succ (n : List UInt8) (vs : List Int) (k : Nat) (h : k < vs.length) : headF n vs (k + 1) = headF n vs k ++ ((if k = 0 then [] else [44]) ++ fmtV vs[k]) := by
  unfold headF
  rcases Nat.eq_zero_or_pos k with h0 | h0
  · subst h0
    rw [joinVals_one vs h]; simp [joinVals, Lib.join]
  · rw [joinVals_succ vs k h0 h, if_neg (by omega)]; simp
theorem headF_all (n : List UInt8) (vs : List Int) : headF n vs vs.length ++ [41] = bodyF n vs := by
  unfold headF bodyF joinVals; rw [List.take_of_length_le (Nat.le_refl _)]; simp
theorem headF_len (n : List UInt8) (vs : List Int) (k : Nat) (hn : n.length ≤ 1) (hv : vs.length ≤ 3) (hk : k ≤ vs.length) : (headF n vs k).length ≤ 14 := by
  have := joinVals_len vs k hk
  unfold headF; simp; omega
set_option maxHeartbeats 3200000 in
set_option maxRecDepth 100000 in
theorem specFormatFact_any (v : Value) (l : List Rel) (r : Int) (V : Value) (vs : List Int) (w : World) (hl : RelsAt w w.heap.size v l) (hn : l.length ≤ 1048576) (hV : IntsAt w w.heap.size V vs) (hw : IntsWf vs) :
    Calls Tryz.prog 23 #[v, .agg #[.int .i64 r, V]] w fun e w' => e = .returned (.string ⟨(fmtFact l r vs).toArray⟩) ∧ Below w.heap.size w w' := by
  have HL := Lib.hid hl
  have HV := Lib.hid hV
  obtain ⟨A, c, rfl, hlc, hcm, -⟩ := hl
  obtain ⟨A', c', rfl, hlc', hcm', -⟩ := hV
  unfold maxLen at hcm hcm'
  have hcon := fun b h w' (hb : Below w.heap.size w w') => specIsValidFact_at (.slice A l.length c) l r (.slice A' vs.length c') vs b h w' ((HL.out.below hb (Nat.le_refl _)).more hb.size) hn ((HV.out.below hb (Nat.le_refl _)).more hb.size) hw
  cases hr : factOk l r vs with
  | false =>
    have HF := Lib.hid (fmtFact_no hr)
    have hE : Below w.heap.size w (w.alloc (.cells #[.int .i64 r, .slice A' vs.length c'] 26)) := (Below.refl _ _).alloc (Nat.le_refl _) _
    replace hcon := hcon false hr _ hE
    clear hr
    go_enter Tryz.func23, Tryz.ntmps23
    go_wp2_with (go_at_call 46; refine hcon.mono ?_; rintro e w1 ⟨rfl, hb1⟩)
    go_ret
    exact ⟨ret_str (by rw [HF.out]), hE.trans (hb1.mono hE.size)⟩
  | true =>
    obtain ⟨hv, hin, hlen, hvals⟩ := factOk_parts hr
    obtain ⟨k, rfl⟩ : ∃ k : Nat, r = (k : Int) := ⟨r.toNat, by omega⟩
    have hk : k < l.length := by omega
    have HF := Lib.hid (fmtFact_yes hr)
    rw [Int.toNat_natCast, getD_at hk] at HF
    have hE : Below w.heap.size w (w.alloc (.cells #[.int .i64 (k : Int), .slice A' vs.length c'] 26)) := (Below.refl _ _).alloc (Nat.le_refl _) _
    have hEz : w.heap.size + 1 ≤ (w.alloc (.cells #[.int .i64 (k : Int), .slice A' vs.length c'] 26)).heap.size := by simp
    have K0 := Lib.hid (show (w.alloc (.cells #[.int .i64 (k : Int), .slice A' vs.length c'] 26)).cell? ⟨w.heap.size, 0, none⟩ = some (.int .i64 (k : Int)) by simp [go_sem])
    have K1 := Lib.hid (show (w.alloc (.cells #[.int .i64 (k : Int), .slice A' vs.length c'] 26)).cell? ⟨w.heap.size, 1, none⟩ = some (.slice A' vs.length c') by simp [go_sem])
    replace hcon := hcon true hr _ hE
    have hok := relOk_bd _ _ (validRels_at l hv k hk)
    have hvl : vs.length ≤ 3 := by rw [arityAt_in (show (k : Int).toNat < l.length by simpa using hk)] at hlen; simp at hlen; omega
    have HVB := Lib.hid hvals
    obtain ⟨b, off, rfl, hb, c0, -, -⟩ := RelsAt.elem HL.out k hk
    have hN1 : l[k].name.size ≤ 1 := by omega
    clear hr hv hin hlen hvals hok
    generalize l[k].name = N at *
    have h40 : ByteArray.size ⟨#[40]⟩ = 1 := rfl
    have h41 : ByteArray.size ⟨#[41]⟩ = 1 := rfl
    have h44 : ByteArray.size ⟨#[44]⟩ = 1 := rfl
    have HH := Lib.hid (show N ++ ⟨#[40]⟩ = ⟨(headF N.data.toList vs 0).toArray⟩ from bytes_ext (by simp [headF_zero, ByteArray.data_append]))
    go_enter Tryz.func23, Tryz.ntmps23
    go_wp2_with fail
    refine hcon.mono ?_
    rintro e w1 ⟨rfl, hb1⟩
    have hW1 : Below w.heap.size w w1 := hE.trans (hb1.mono hE.size)
    have f0 := (hb1.cell (p := ⟨w.heap.size, 0, none⟩) hEz).trans K0.out
    replace c0 := (hW1.cell (p := ⟨b, off + k * 3, none⟩) hb).trans c0
    clear hcon
    go_wp2
    go_loopw [5, 6] (fun s i wr => ∃ j : Nat, j ≤ vs.length ∧ i = .int .i64 j ∧ s = .string ⟨(headF N.data.toList vs j).toArray⟩ ∧ Below (w.alloc (.cells #[.int .i64 (k : Int), .slice A' vs.length c'] 26)).heap.size (w.alloc (.cells #[.int .i64 (k : Int), .slice A' vs.length c'] 26)) wr) (fun _ i _ => vs.length - (intOf i).toNat)
    case atStart => exact ⟨0, by omega, rfl, by rw [← HH.out], hb1⟩
    case round =>
      obtain ⟨j, hj, rfl, rfl, hW⟩ := hrel
      have f1 := (hW.cell (p := ⟨w.heap.size, 1, none⟩) hEz).trans K1.out
      have hsz : ByteArray.size ⟨(headF N.data.toList vs j).toArray⟩ ≤ 14 := by rw [size_mk]; exact headF_len _ vs j (by simpa using hN1) hvl hj
      by_cases hlt : j < vs.length
      · obtain ⟨b', off', rfl, hb', d0⟩ := IntsAt.elem HV.out j hlt
        replace d0 := ((hE.trans (hW.mono hE.size)).cell (p := ⟨b', off' + j, none⟩) hb').trans d0
        have hfv := specFormatValue_any vs[j] wr (hw j hlt).1 (hw j hlt).2
        have hfl : ByteArray.size ⟨(fmtV vs[j]).toArray⟩ ≤ 3 := by rw [size_mk]; exact fmtV_len _
        have HS := Lib.hid (headF_succ N.data.toList vs j hlt)
        rcases Nat.eq_zero_or_pos j with h0 | h0
        · have hg1 : decide ((0 : Int) < (j : Int)) = false := decide_eq_false (by omega)
          have hg2 : decide (0 < j) = false := decide_eq_false (by omega)
          have HS' := Lib.hid (show (⟨(headF N.data.toList vs j).toArray⟩ : ByteArray) ++ ⟨(fmtV vs[j]).toArray⟩ = ⟨(headF N.data.toList vs (j + 1)).toArray⟩ by rw [HS.out, mk_app, if_pos h0, List.nil_append])
          clear h0
          generalize (⟨(headF N.data.toList vs j).toArray⟩ : ByteArray) = J at *
          generalize (⟨(fmtV vs[j]).toArray⟩ : ByteArray) = I at *
          go_wp2_with (go_at_call 45; refine hfv.mono ?_; rintro e w2 ⟨rfl, hb2⟩)
          go_roundw
          case rel => exact ⟨j + 1, by omega, by go_num, by rw [← HS'.out], hW.trans (hb2.mono hW.size)⟩
          case measure => simp [intOf]; omega
        · have hg1 : decide ((0 : Int) < (j : Int)) = true := decide_eq_true (by omega)
          have hg2 : decide (0 < j) = true := decide_eq_true (by omega)
          have HS' := Lib.hid (show ((⟨(headF N.data.toList vs j).toArray⟩ : ByteArray) ++ ⟨#[44]⟩) ++ ⟨(fmtV vs[j]).toArray⟩ = ⟨(headF N.data.toList vs (j + 1)).toArray⟩ by
            rw [HS.out, show (⟨#[44]⟩ : ByteArray) = ⟨([44] : List UInt8).toArray⟩ from rfl, mk_app, mk_app, if_neg (by omega), List.append_assoc])
          clear h0
          generalize (⟨(headF N.data.toList vs j).toArray⟩ : ByteArray) = J at *
          generalize (⟨(fmtV vs[j]).toArray⟩ : ByteArray) = I at *
          go_wp2_with (go_at_call 45; refine hfv.mono ?_; rintro e w2 ⟨rfl, hb2⟩)
          go_roundw
          case rel => exact ⟨j + 1, by omega, by go_num, by rw [← HS'.out], hW.trans (hb2.mono hW.size)⟩
          case measure => simp [intOf]; omega
      · obtain rfl : j = vs.length := by omega
        have HE := Lib.hid (show (⟨(headF N.data.toList vs vs.length).toArray⟩ : ByteArray) ++ ⟨#[41]⟩ = ⟨(fmtFact l (k : Int) vs).toArray⟩ by
          rw [HF.out, ← headF_all, show (⟨#[41]⟩ : ByteArray) = ⟨([41] : List UInt8).toArray⟩ from rfl, mk_app])
        go_wp2
        go_ret
        exact ⟨ret_str HE.out, hE.trans (hW.mono hE.size)⟩
theorem specFormatFact_c (v : Value) (l : List Rel) (u : Value) (x : Fct) (w : World) (h : RelationS_at w w.heap.size v l) (_ : RelationS_wf l) (hn : RelationS_sz l ≤ 1048576) (h' : Fact_at w w.heap.size u x) (hw : Fact_wf x) (_ : Fact_sz x ≤ 1048576) :
    Calls Tryz.prog 23 #[v, u] w fun e w' => e = .returned (.string ⟨(fmtFact l x.rel x.vals).toArray⟩) ∧ Below w.heap.size w w' := by
  obtain ⟨V, rfl, h'⟩ := h'
  exact specFormatFact_any v l x.rel V x.vals w h (by unfold RelationS_sz at hn; omega) h' hw.2

end Go.Proofs.YteogknfhafdbmaaGreatDoor
