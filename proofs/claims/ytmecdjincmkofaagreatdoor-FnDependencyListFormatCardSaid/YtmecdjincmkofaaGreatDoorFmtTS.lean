/-
  Walks and plain lemmas for the laws of this seat: what single Go functions return, for every argument.
-/
import Derived.Test.YtmecdjincmkofaaGreatDoorBase
import Derived.Test.YtmecdjincmkofaaGreatDoorFmtS
import Derived.Test.YtmecdjincmkofaaGreatDoorInts
import Derived.Test.YtmecdjincmkofaaGreatDoorNum
import Derived.Test.YtmecdjincmkofaaGreatDoorVarsM
import Derived.Test.YtmecdjincmkofaaGreatDoorAtomV
namespace Go.Proofs.YtmecdjincmkofaaGreatDoor
open Go.RowKit

set_option maxHeartbeats 800000 in
set_option maxRecDepth 100000 in
theorem specFormatTerm_any (t : Int) (w : World) :
    Calls Tryz.prog 193 #[.int .i64 t] w fun e w' => e = .returned (.string ⟨(fmtT t).toArray⟩) ∧ Below w.heap.size w w' := by
  by_cases hc : -10 ≤ t ∧ t < 0
  · have HF := Lib.hid (fmtT_const hc)
    have h1 := l1In_at t (-10) (-1) true (inB_true (by omega)) w
    have h2 := fun w => specFormatInt_any (-1 - t) w (by omega) (by omega)
    obtain ⟨hc1, hc2⟩ := hc
    go_enter Tryz.func193, Tryz.ntmps193
    go_wp2_with fail
    refine h1.mono ?_
    rintro e w' ⟨rfl, rfl⟩
    go_wp2_with fail
    refine (h2 _).mono ?_
    rintro e w1 ⟨rfl, hb1⟩
    go_wp2
    go_ret
    exact ⟨ret_str (by rw [HF.out]), hb1⟩
  · have h1 := l1In_at t (-10) (-1) false (inB_false (by omega)) w
    by_cases hv : 0 ≤ t ∧ t ≤ 4
    · have h2 := l1In_at t 0 4 true (inB_true hv) w
      have hsz : ByteArray.size ⟨#[120, 121, 122, 117, 118]⟩ = 5 := rfl
      rcases (show t = 0 ∨ t = 1 ∨ t = 2 ∨ t = 3 ∨ t = 4 by omega) with rfl | rfl | rfl | rfl | rfl
      all_goals
        clear hc hv
        go_enter Tryz.func193, Tryz.ntmps193
        go_wp2_with fail
        refine h1.mono ?_
        rintro e w' ⟨rfl, rfl⟩
        go_wp2_with fail
        refine h2.mono ?_
        rintro e w' ⟨rfl, rfl⟩
        go_wp2
        go_ret
        exact ⟨rfl, Below.refl _ _⟩
    · have h2 := l1In_at t 0 4 false (inB_false hv) w
      have HF := Lib.hid (fmtT_no (t := t) (by unfold validT; exact inB_false (by omega)))
      clear hc hv
      go_enter Tryz.func193, Tryz.ntmps193
      go_wp2_with fail
      refine h1.mono ?_
      rintro e w' ⟨rfl, rfl⟩
      go_wp2_with fail
      refine h2.mono ?_
      rintro e w' ⟨rfl, rfl⟩
      go_wp2
      go_ret
      exact ⟨ret_str (by rw [HF.out]), Below.refl _ _⟩
theorem specFormatTerm_c (t : Int) (w : World) (_ : -9223372036854775808 ≤ t ∧ t ≤ 9223372036854775807) :
    Calls Tryz.prog 193 #[.int .i64 t] w fun e w' => e = .returned (.string ⟨(fmtT t).toArray⟩) ∧ Below w.heap.size w w' := specFormatTerm_any t w

set_option maxHeartbeats 3200000 in
set_option maxRecDepth 100000 in
theorem specFormatAtom_any (v : Value) (l : List Rel) (r : Int) (V : Value) (vs : List Int) (w : World) (hl : RelsAt w w.heap.size v l) (hn : l.length ≤ 1048576) (hV : IntsAt w w.heap.size V vs) (hw : IntsWf vs) :
    Calls Tryz.prog 234 #[v, .agg #[.int .i64 r, V]] w fun e w' => e = .returned (.string ⟨(fmtAtom l ⟨r, vs⟩).toArray⟩) ∧ Below w.heap.size w w' := by
  have HL := Lib.hid hl
  have HV := Lib.hid hV
  obtain ⟨A, c, rfl, hlc, hcm, -⟩ := hl
  obtain ⟨A', c', rfl, hlc', hcm', -⟩ := hV
  unfold maxLen at hcm hcm'
  have hcon := fun b h w' (hb : Below w.heap.size w w') => specIsValidAtom_at (.slice A l.length c) l r (.slice A' vs.length c') vs b h w' ((HL.out.below hb (Nat.le_refl _)).more hb.size) hn ((HV.out.below hb (Nat.le_refl _)).more hb.size) hw
  cases hr : atomOk l r vs with
  | false =>
    have HF := Lib.hid (fmtAtom_no (l := l) (a := ⟨r, vs⟩) hr)
    have hE : Below w.heap.size w (w.alloc (.cells #[.int .i64 r, .slice A' vs.length c'] 184)) := (Below.refl _ _).alloc (Nat.le_refl _) _
    replace hcon := hcon false hr _ hE
    clear hr
    go_enter Tryz.func234, Tryz.ntmps234
    go_wp2_with (go_at_call 171; refine hcon.mono ?_; rintro e w1 ⟨rfl, hb1⟩)
    go_ret
    exact ⟨ret_str (by rw [HF.out]), hE.trans (hb1.mono hE.size)⟩
  | true =>
    obtain ⟨hv, hin, hlen, hvals⟩ := atomOk_parts hr
    obtain ⟨k, rfl⟩ : ∃ k : Nat, r = (k : Int) := ⟨r.toNat, by omega⟩
    have hk : k < l.length := by omega
    have HF := Lib.hid (fmtAtom_yes (l := l) (a := ⟨(k : Int), vs⟩) hr)
    unfold nameAt at HF
    rw [Int.toNat_natCast, getD_at hk] at HF
    have hE : Below w.heap.size w (w.alloc (.cells #[.int .i64 (k : Int), .slice A' vs.length c'] 184)) := (Below.refl _ _).alloc (Nat.le_refl _) _
    have hEz : w.heap.size + 1 ≤ (w.alloc (.cells #[.int .i64 (k : Int), .slice A' vs.length c'] 184)).heap.size := by simp
    have K0 := Lib.hid (show (w.alloc (.cells #[.int .i64 (k : Int), .slice A' vs.length c'] 184)).cell? ⟨w.heap.size, 0, none⟩ = some (.int .i64 (k : Int)) by simp [go_sem])
    have K1 := Lib.hid (show (w.alloc (.cells #[.int .i64 (k : Int), .slice A' vs.length c'] 184)).cell? ⟨w.heap.size, 1, none⟩ = some (.slice A' vs.length c') by simp [go_sem])
    replace hcon := hcon true hr _ hE
    have hok := relOk_bd _ _ (validRels_at l hv k hk)
    have hvl : vs.length ≤ 3 := by rw [arityAt_in (show (k : Int).toNat < l.length by simpa using hk)] at hlen; simp at hlen; omega
    obtain ⟨b, off, rfl, hb, c0, -, -⟩ := RelsAt.elem HL.out k hk
    have hN1 : l[k].name.size ≤ 1 := by omega
    clear hr hv hin hlen hvals hok
    generalize l[k].name = N at *
    have HH := Lib.hid (show N = ⟨(N.data.toList ++ fmtTs (vs.take 0)).toArray⟩ from bytes_ext (by simp [fmtTs]))
    go_enter Tryz.func234, Tryz.ntmps234
    go_wp2_with fail
    refine hcon.mono ?_
    rintro e w1 ⟨rfl, hb1⟩
    have hW1 : Below w.heap.size w w1 := hE.trans (hb1.mono hE.size)
    have f0 := (hb1.cell (p := ⟨w.heap.size, 0, none⟩) hEz).trans K0.out
    replace c0 := (hW1.cell (p := ⟨b, off + k * 3, none⟩) hb).trans c0
    clear hcon
    go_wp2
    go_loopw [5, 6] (fun s i wr => ∃ j : Nat, j ≤ vs.length ∧ i = .int .i64 j ∧ s = .string ⟨(N.data.toList ++ fmtTs (vs.take j)).toArray⟩ ∧ Below (w.alloc (.cells #[.int .i64 (k : Int), .slice A' vs.length c'] 184)).heap.size (w.alloc (.cells #[.int .i64 (k : Int), .slice A' vs.length c'] 184)) wr) (fun _ i _ => vs.length - (intOf i).toNat)
    case atStart => exact ⟨0, by omega, rfl, by rw [← HH.out], hb1⟩
    case round =>
      obtain ⟨j, hj, rfl, rfl, hW⟩ := hrel
      have f1 := (hW.cell (p := ⟨w.heap.size, 1, none⟩) hEz).trans K1.out
      have hsz : ByteArray.size ⟨(N.data.toList ++ fmtTs (vs.take j)).toArray⟩ ≤ 4 := by
        have h1 := fmtTs_len (vs.take j)
        rw [List.length_take] at h1
        rw [size_mk, List.length_append]
        have h2 : N.data.toList.length = N.size := by simp
        omega
      by_cases hlt : j < vs.length
      · obtain ⟨b', off', rfl, hb', d0⟩ := IntsAt.elem HV.out j hlt
        replace d0 := ((hE.trans (hW.mono hE.size)).cell (p := ⟨b', off' + j, none⟩) hb').trans d0
        have hfv := specFormatTerm_any vs[j] wr
        have hfl : ByteArray.size ⟨(fmtT vs[j]).toArray⟩ ≤ 1 := by rw [size_mk]; exact fmtT_len _
        have HS' := Lib.hid (show (⟨(N.data.toList ++ fmtTs (vs.take j)).toArray⟩ : ByteArray) ++ ⟨(fmtT vs[j]).toArray⟩ = ⟨(N.data.toList ++ fmtTs (vs.take (j + 1))).toArray⟩ by rw [fmtTs_take vs j hlt, mk_app, List.append_assoc])
        generalize (⟨(N.data.toList ++ fmtTs (vs.take j)).toArray⟩ : ByteArray) = J at *
        generalize (⟨(fmtT vs[j]).toArray⟩ : ByteArray) = I at *
        go_wp2_with (go_at_call 193; refine hfv.mono ?_; rintro e w2 ⟨rfl, hb2⟩)
        go_roundw
        case rel => exact ⟨j + 1, by omega, by go_num, by rw [← HS'.out], hW.trans (hb2.mono hW.size)⟩
        case measure => simp [intOf]; omega
      · obtain rfl : j = vs.length := by omega
        have HE := Lib.hid (show (⟨(N.data.toList ++ fmtTs (vs.take vs.length)).toArray⟩ : ByteArray) = ⟨(fmtAtom l ⟨(k : Int), vs⟩).toArray⟩ by
          rw [HF.out, List.take_of_length_le (Nat.le_refl _)])
        go_wp2
        go_ret
        exact ⟨ret_str HE.out, hE.trans (hW.mono hE.size)⟩
theorem specFormatAtom_c (v : Value) (l : List Rel) (u : Value) (x : Atm) (w : World) (h : RelationS_at w w.heap.size v l) (_ : RelationS_wf l) (hn : RelationS_sz l ≤ 1048576) (h' : Atom_at w w.heap.size u x) (hw : Atom_wf x) (_ : Atom_sz x ≤ 1048576) :
    Calls Tryz.prog 234 #[v, u] w fun e w' => e = .returned (.string ⟨(fmtAtom l x).toArray⟩) ∧ Below w.heap.size w w' := by
  obtain ⟨V, rfl, h'⟩ := h'
  exact specFormatAtom_any v l x.rel V x.vals w h (by unfold RelationS_sz at hn; omega) h' hw.2

set_option maxHeartbeats 1600000 in
set_option maxRecDepth 100000 in
theorem specL10Atoms_any (v : Value) (l : List Rel) (u : Value) (ts : List Atm) (w : World) (hl : RelsAt w w.heap.size v l) (hn : l.length ≤ 1048576) (h : AtomS_at w w.heap.size u ts) (hw : AtomS_wf ts) (h2 : ts.length ≤ 2) :
    Calls Tryz.prog 194 #[v, u] w fun e w' => e = .returned (.string ⟨(joinAtoms l ts).toArray⟩) ∧ Below w.heap.size w w' := by
  have HL := Lib.hid hl
  have HX := Lib.hid h
  obtain ⟨A, a0, rfl, hlc, hcm, -⟩ := hl
  obtain ⟨A', c, rfl, hc1, hc2⟩ := h.form
  unfold maxLen at hc2
  clear h
  have h32 : ByteArray.size ⟨#[32]⟩ = 1 := rfl
  go_enter Tryz.func194, Tryz.ntmps194
  go_wp2
  go_loopw [5, 6] (fun s i wr => ∃ j : Nat, j ≤ ts.length ∧ i = .int .i64 j ∧ s = .string ⟨(joinAtoms l (ts.take j)).toArray⟩ ∧ Below w.heap.size w wr) (fun _ i _ => ts.length - (intOf i).toNat)
  case atStart => exact ⟨0, by omega, rfl, rfl, Below.refl _ _⟩
  case round =>
    obtain ⟨j, hj, rfl, rfl, hW⟩ := hrel
    have hz := hW.size
    have hsz : ByteArray.size ⟨(joinAtoms l (ts.take j)).toArray⟩ ≤ 10 := by
      rw [size_mk]; have := joinAtoms_len l ts j hj; omega
    by_cases hlt : j < ts.length
    · obtain ⟨b, off, V, rfl, hb, c0, c1, hV⟩ := AtomS_at.elem HX.out j hlt
      replace c0 := (hW.cell (p := ⟨b, off + j * 2, none⟩) hb).trans c0
      replace c1 := (hW.cell (p := ⟨b, off + j * 2 + 1, none⟩) hb).trans c1
      have hfa := specFormatAtom_any (.slice A l.length a0) l ts[j].rel V ts[j].vals wr ((HL.out.below hW (Nat.le_refl _)).more hz) hn ((hV.below hW (Nat.le_refl _)).more hz) (hw j hlt).2
      have hfl : ByteArray.size ⟨(fmtAtom l ts[j]).toArray⟩ ≤ 4 := by rw [size_mk]; exact fmtAtom_len _ _
      have HE : Hid ((⟨ts[j].rel, ts[j].vals⟩ : Atm) = ts[j]) := Lib.hid rfl
      rw [HE.out] at hfa
      clear hV
      rcases Nat.eq_zero_or_pos j with h0 | h0
      · have hg1 : decide ((0 : Int) < (j : Int)) = false := decide_eq_false (by omega)
        have hg2 : decide (0 < j) = false := decide_eq_false (by omega)
        have HS' := Lib.hid (show (⟨(joinAtoms l (ts.take j)).toArray⟩ : ByteArray) ++ ⟨(fmtAtom l ts[j]).toArray⟩ = ⟨(joinAtoms l (ts.take (j + 1))).toArray⟩ by
          subst h0
          rw [joinAtoms_one l ts hlt, mk_app]; rfl)
        clear h0
        generalize (⟨(joinAtoms l (ts.take j)).toArray⟩ : ByteArray) = J at *
        generalize (⟨(fmtAtom l ts[j]).toArray⟩ : ByteArray) = I at *
        go_wp2_with (go_at_call 234; refine hfa.mono ?_; rintro e w2 ⟨rfl, hb2⟩)
        go_roundw
        case rel => exact ⟨j + 1, by omega, by go_num, by rw [← HS'.out], hW.trans (hb2.mono hz)⟩
        case measure => simp [intOf]; omega
      · have hg1 : decide ((0 : Int) < (j : Int)) = true := decide_eq_true (by omega)
        have hg2 : decide (0 < j) = true := decide_eq_true (by omega)
        have HS' := Lib.hid (show ((⟨(joinAtoms l (ts.take j)).toArray⟩ : ByteArray) ++ ⟨#[32]⟩) ++ ⟨(fmtAtom l ts[j]).toArray⟩ = ⟨(joinAtoms l (ts.take (j + 1))).toArray⟩ by
          rw [joinAtoms_succ l ts j h0 hlt, show (⟨#[32]⟩ : ByteArray) = ⟨([32] : List UInt8).toArray⟩ from rfl, mk_app, mk_app, List.append_assoc])
        clear h0
        generalize (⟨(joinAtoms l (ts.take j)).toArray⟩ : ByteArray) = J at *
        generalize (⟨(fmtAtom l ts[j]).toArray⟩ : ByteArray) = I at *
        go_wp2_with (go_at_call 234; refine hfa.mono ?_; rintro e w2 ⟨rfl, hb2⟩)
        go_roundw
        case rel => exact ⟨j + 1, by omega, by go_num, by rw [← HS'.out], hW.trans (hb2.mono hz)⟩
        case measure => simp [intOf]; omega
    · obtain rfl : j = ts.length := by omega
      have HE := Lib.hid (show (⟨(joinAtoms l (ts.take ts.length)).toArray⟩ : ByteArray) = ⟨(joinAtoms l ts).toArray⟩ by rw [List.take_of_length_le (Nat.le_refl _)])
      go_wp2
      go_ret
      exact ⟨ret_str HE.out, hW⟩

set_option maxHeartbeats 1600000 in
theorem specL10Term_any (c : UInt8) (w : World) :
    Calls Tryz.prog 122 #[.string ⟨#[c]⟩] w fun e w' => e = .returned (.int .i64 (termOf c)) ∧ Below w.heap.size w w' := by
  have hbd := termOf_bd c
  go_enter Tryz.func122, Tryz.ntmps122
  go_wp2
  go_loopw [3] (fun i wr => ∃ t : Int, -10 ≤ t ∧ t ≤ termOf c ∧ i = .int .i64 t ∧ Below w.heap.size w wr) (fun i _ => (5 - intOf i).toNat)
  case atStart => exact ⟨-10, by omega, hbd.1, rfl, Below.refl _ _⟩
  case round =>
    obtain ⟨t, ht1, ht2, rfl, hW⟩ := hrel
    have hz := hW.size
    by_cases hlt : t < 5
    · have hd : decide (t < 5) = true := decide_eq_true hlt
      have hft := specFormatTerm_any t wr
      have hv : validT t = true := (validT_iff t).2 (by omega)
      by_cases he : termOf c = t
      · have hs : (⟨(fmtT t).toArray⟩ : ByteArray) = ⟨#[c]⟩ := by rw [(fmtT_is hv).2 he]
        have hb : ((⟨(fmtT t).toArray⟩ : ByteArray).toList == [c]) = true := by rw [hs, ByteArray.toList_eq]; exact beq_self_eq_true [c]
        have HV := Lib.hid he
        clear he hs hv ht2
        generalize (⟨(fmtT t).toArray⟩ : ByteArray) = F at *
        go_wp2_with (go_at_call 193; refine hft.mono ?_; rintro e w2 ⟨rfl, hb2⟩)
        go_ret
        exact ⟨ret_int HV.out.symm, hW.trans (hb2.mono hz)⟩
      · have hs : ¬ (⟨(fmtT t).toArray⟩ : ByteArray) = ⟨#[c]⟩ := by
          intro e
          injection e with e
          have e2 := congrArg Array.toList e
          simp at e2
          exact he ((fmtT_is hv).1 e2)
        have hb0 := str_ne hs
        have hb : ((⟨(fmtT t).toArray⟩ : ByteArray).toList == [c]) = false := by rw [ByteArray.toList_eq (⟨#[c]⟩ : ByteArray)] at hb0; exact hb0
        clear hb0
        have ht3 : t + 1 ≤ termOf c := by omega
        clear he hs hv ht2
        generalize (⟨(fmtT t).toArray⟩ : ByteArray) = F at *
        go_wp2_with (go_at_call 193; refine hft.mono ?_; rintro e w2 ⟨rfl, hb2⟩)
        go_roundw
        case rel => exact ⟨t + 1, by omega, ht3, by go_num, hW.trans (hb2.mono hz)⟩
        case measure => simp [intOf]; omega
    · have hd : decide (t < 5) = false := decide_eq_false hlt
      have HV := Lib.hid (show termOf c = 5 by omega)
      go_wp2
      go_ret
      exact ⟨ret_int HV.out.symm, hW⟩

set_option maxHeartbeats 800000 in
theorem specHas_any (v : Value) (l : List Int) (x : Int) (w : World) (hl : IntS_at w w.heap.size v l) :
    Calls Tryz.prog 146 #[v, .int .i64 x] w fun e w' => e = .returned (.bool (decide (x ∈ l))) ∧ w = w' := by
  have HL := Lib.hid hl
  obtain ⟨A, c, rfl, hlc, hcm, -⟩ := hl
  unfold maxLen at hcm
  go_enter Tryz.func146, Tryz.ntmps146
  go_wp2
  go_loop [5] (fun i => ∃ k : Nat, k ≤ l.length ∧ i = .int .i64 k ∧ Hid (x ∉ l.take k)) (fun i => l.length - (intOf i).toNat)
  case atStart => exact ⟨0, by omega, rfl, Lib.hid (by simp)⟩
  case round =>
    obtain ⟨k, hk, rfl, HT⟩ := hrel
    by_cases hlt : k < l.length
    · obtain ⟨b, off, rfl, hb, c0⟩ := IntsAt.elem HL.out k hlt
      by_cases he : l[k] = x
      · have HV := Lib.hid (decide_eq_true (show x ∈ l by rw [← he]; exact List.getElem_mem hlt))
        have hb2 : (l[k] == x) = true := by rw [he]; exact beq_self_eq_true x
        clear he
        go_wp2
        go_ret
        exact ⟨ret_bool HV.out.symm, rfl⟩
      · have HN := Lib.hid (show x ∉ l.take (k + 1) by
          rw [List.take_succ_eq_append_getElem hlt, List.mem_append, List.mem_singleton]
          exact fun h => h.elim HT.out (fun e => he e.symm))
        have hb2 : (l[k] == x) = false := beq_eq_false_iff_ne.2 he
        clear he
        go_wp2
        go_round
        case rel => exact ⟨k + 1, by omega, by go_num, HN⟩
        case measure => simp [intOf]; omega
    · obtain rfl : k = l.length := by omega
      have HV := Lib.hid (decide_eq_false (show x ∉ l by have := HT.out; rwa [List.take_of_length_le (Nat.le_refl _)] at this))
      go_wp2
      go_ret
      exact ⟨ret_bool HV.out.symm, rfl⟩
theorem specHas_at (v : Value) (l : List Int) (x : Int) (bb : Bool) (hq : decide (x ∈ l) = bb) (w : World) (hl : IntS_at w w.heap.size v l) :
    Calls Tryz.prog 146 #[v, .int .i64 x] w fun e w' => e = .returned (.bool bb) ∧ w = w' := by
  subst hq; exact specHas_any v l x w hl

end Go.Proofs.YtmecdjincmkofaaGreatDoor
