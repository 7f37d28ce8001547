/-
  Walks and plain lemmas for the laws of this seat: what single Go functions return, for every argument.
-/
import Derived.Test.YtakflmaeclneiaaGreatTyAtom
import Derived.Test.YtakflmaeclneiaaGreatRel
namespace Go.Proofs.YtakflmaeclneiaaGreat
open Go.RowKit

set_option maxHeartbeats 1600000 in
theorem eqAtomS_c (v u : Value) (l : List Atm) (w : World) (hl : AtomS_at w w.heap.size v l) (hm : AtomS_at w w.heap.size u l) :
    Calls Tryz.prog 47 #[v, u] w fun e w' => e = .returned (.bool true) ∧ Below w.heap.size w w' := by
  have HL := Lib.hid hl
  have HM := Lib.hid hm
  obtain ⟨A, c, rfl, hlc, hcm⟩ := hl.form
  obtain ⟨A', c', rfl, hlc', hcm'⟩ := hm.form
  clear hl hm
  unfold maxLen at hcm hcm'
  go_enter Tryz.func47, Tryz.ntmps47
  go_wp2
  go_loopw [5] (fun i wr => ∃ k : Nat, k ≤ l.length ∧ i = .int .i64 k ∧ Below w.heap.size w wr) (fun i _ => l.length - (intOf i).toNat)
  case atStart => exact ⟨0, by omega, rfl, Below.refl _ _⟩
  case round =>
    obtain ⟨k, hk, rfl, hW⟩ := hrel
    have hz := hW.size
    by_cases hlt : k < l.length
    · obtain ⟨b, off, V, rfl, hb, c0, c1, hV⟩ := AtomS_at.elem HL.out k hlt
      obtain ⟨b', off', V', rfl, hb', d0, d1, hV'⟩ := AtomS_at.elem HM.out k hlt
      have C0 := Aft.cell hb c0
      have C1 := Aft.cell hb c1
      have D0 := Aft.cell hb' d0
      have D1 := Aft.cell hb' d1
      have hcon := fun (u : Aft w.heap.size w) => eqAtom_c (.agg #[.int .i64 l[k].rel, V]) (.agg #[.int .i64 l[k].rel, V']) l[k] u.now ⟨V, rfl, (hV.below u.is (Nat.le_refl _)).more u.is.size⟩ ⟨V', rfl, (hV'.below u.is (Nat.le_refl _)).more u.is.size⟩
      clear c0 c1 d0 d1
      go_wp2
      refine wp_region_aft hW (by kernel_rfl) (by kernel_rfl) ?_
      repeat (go_big_quiet_step (((go_at_call 62; exact calls_aft (Nat.le_refl _) (hcon _)))))
      refine wpQuiet_nil ?_
      refine aft_end ?_
      intro w1 hh
      go_wp2
      go_roundw
      case rel => exact ⟨k + 1, by omega, by go_num, hh⟩
      case measure => simp [intOf]; omega
    · obtain rfl : k = l.length := by omega
      go_wp2
      go_ret
      exact ⟨rfl, hW⟩

/-- the first i atoms marked, the others as they were -/
def amkTo (k : Nat) (l : List Atm) (i : Nat) : List Atm := (AtomS_mk k l).take i ++ l.drop i
theorem amkTo_len (k : Nat) (l : List Atm) (i : Nat) (h : i ≤ l.length) : (amkTo k l i).length = l.length := by unfold amkTo; rw [List.length_append, List.length_take, AtomS_mk_len, List.length_drop]; omega
theorem amkTo_at (k : Nat) (l : List Atm) (i : Nat) (h : i < l.length) (h' : i < (amkTo k l i).length) : (amkTo k l i)[i] = l[i] := by
  have e : ((AtomS_mk k l).take i).length = i := by rw [List.length_take, AtomS_mk_len]; omega
  simp only [amkTo]
  rw [List.getElem_append_right (by omega)]
  simp [e]
theorem amkTo_succ (k : Nat) (l : List Atm) (i : Nat) (h : i < l.length) : (amkTo k l i).set i (markAtm k l i) = amkTo k l (i + 1) := by
  have e : ((AtomS_mk k l).take i).length = i := by rw [List.length_take, AtomS_mk_len]; omega
  unfold amkTo
  rw [List.set_append_right _ _ (by omega), e, Nat.sub_self, List.drop_eq_getElem_cons h, List.set_cons_zero, List.take_succ_eq_append_getElem (by rw [AtomS_mk_len]; exact h), AtomS_mk_at, List.append_assoc]
  rfl
set_option maxHeartbeats 1600000 in
set_option maxRecDepth 100000 in
theorem markAtomS_any (B C : Nat) (v : Value) (Vs : List Value) (l : List Atm) (k : Nat) (w : World) (hS : AtomSO 72 B C v Vs l w) (hn : AtomS_sz l ≤ 1048576) (hk : k ≤ 100000000000) :
    Calls Tryz.prog 33 #[v, .int .i64 (k : Int)] w fun e w' => e = .returned (.int .i64 ((k + AtomS_cnt l : Nat) : Int)) ∧ AtomSO 72 B C v Vs (AtomS_mk k l) w' ∧ Chg (aFootF v Vs) w w' := by
  obtain ⟨A, c, rfl, hc1, hc2⟩ := (hS.at_ (Nat.le_refl _)).form
  unfold maxLen at hc2
  have hn1 : l.length + avalsLen l ≤ 1048576 := hn
  go_enter Tryz.func33, Tryz.ntmps33
  go_wp2
  go_loopw [1, 5] (fun x j wr => ∃ i : Nat, i ≤ l.length ∧ j = .int .i64 (i : Int) ∧ x = .int .i64 ((k + i + avalsLen (l.take i) : Nat) : Int) ∧ AtomSO 72 B C (.slice A l.length c) Vs (amkTo k l i) wr ∧ Chg (aFootF (.slice A l.length c) Vs) w wr) (fun _ j _ => l.length - (intOf j).toNat)
  case atStart => exact ⟨0, by omega, rfl, by simp [avalsLen], by simpa [amkTo] using hS, Chg.refl _ _⟩
  case round =>
    clear hS
    obtain ⟨i, hi, rfl, rfl, hO, hW⟩ := hrel
    have hml := amkTo_len k l i hi
    by_cases hlt : i < l.length
    · have hil : i < (amkTo k l i).length := by omega
      have hiv : i < Vs.length := by rw [hO.len]; exact hil
      have hv1 := avalsLen_take l i hlt
      have hv2 := avalsLen_le l (i + 1)
      have hrow := hO.row
      rw [apairs_len hO.len, hml] at hrow
      obtain ⟨g, cap, hv, hg0, hg1⟩ := World.ownsRow.form hrow (by omega)
      simp only [Value.slice.injEq] at hv
      obtain ⟨rfl, -, rfl⟩ := hv
      clear hrow
      have HML := Lib.hid hml
      obtain ⟨d0, d1⟩ := hO.cells hml i hil hiv
      have hfz := hO.frozen hml
      have h1 := AtomSO.setRel (e := 72) (by decide) hO hml i hil ((k + i + avalsLen (l.take i) : Nat) : Int)
      have hin := h1.el i (by rw [List.length_set]; exact hil) hiv
      have hvals : ((amkTo k l i).set i ⟨((k + i + avalsLen (l.take i) : Nat) : Int), (amkTo k l i)[i].vals⟩)[i]'(by rw [List.length_set]; exact hil) = ⟨((k + i + avalsLen (l.take i) : Nat) : Int), l[i].vals⟩ := by
        rw [List.getElem_set_self, amkTo_at k l i hlt hil]
      rw [hvals] at hin
      have hcon := markIntS_any B Vs[i] l[i].vals (k + i + avalsLen (l.take i) + 1) _ hin.1 (by omega) (by omega)
      rw [show (((k + i + avalsLen (l.take i) + 1 : Nat)) : Int) = ((k + i + avalsLen (l.take i) : Nat) : Int) + 1 by omega] at hcon
      have HC := Lib.hid hcon
      have H1 := Lib.hid h1
      have HIN := Lib.hid hin
      clear hcon h1 hin hvals hml hO
      have hd1 : (wr.setCell ⟨g, i * 2, none⟩ (.int .i64 ((k + i + avalsLen (l.take i) : Nat) : Int))).cell? ⟨g, i * 2 + 1, none⟩ = some Vs[i] := by simp [go_sem, d1]
      obtain ⟨K, hK⟩ : ∃ K, K = k + i + avalsLen (l.take i) := ⟨_, rfl⟩
      have HKs := Lib.hid (show K + 1 + l[i].vals.length = k + (i + 1) + avalsLen (l.take (i + 1)) by rw [hK, hv1]; omega)
      have HKm := Lib.hid (show (⟨(K : Int), markInts (K + 1) l[i].vals.length⟩ : Atm) = markAtm k l i by
        unfold markAtm; rw [hK, show l.getD i default = l[i] by simp [List.getD, List.getElem?_eq_getElem hlt]])
      have hKb : K ≤ 200000000000 := by omega
      rw [← hK] at HC H1 HIN hd1 ⊢
      clear hK
      go_wp2_with fail
      refine HC.out.mono ?_
      rintro e w2 ⟨rfl, hV2, hC2⟩
      have H2 := Lib.hid (AtomSO.setVals (e := 72) (by decide) H1.out i (by rw [List.length_set]; exact hil) hiv (markInts (K + 1) l[i].vals.length) ⟨hV2, HIN.out.2⟩ hC2)
      have hc2 : Chg (aFootF (.slice (some ⟨g, 0, none⟩) l.length c) Vs) w w2 := (hW.setCell (p := ⟨g, i * 2, none⟩) (.inl rfl) _).trans (hC2.mono fun q hq => .inr ⟨Vs[i], List.getElem_mem hiv, hq⟩)
      clear HC hC2 hV2
      go_wp2
      go_roundw
      case rel =>
        refine ⟨i + 1, by omega, by go_num, by rw [← HKs.out]; go_num, ?_, hc2⟩
        have := H2.out
        rw [List.getElem_set_self, List.set_set] at this
        rw [← amkTo_succ k l i hlt, ← HKm.out]
        exact this
      case measure => simp [intOf]; omega
    · obtain rfl : i = l.length := by omega
      have hO' : AtomSO 72 B C (.slice A l.length c) Vs (AtomS_mk k l) wr := by
        have := hO
        unfold amkTo at this
        rwa [List.drop_length, List.append_nil, List.take_of_length_le (by rw [AtomS_mk_len]; exact Nat.le_refl _)] at this
      clear hO
      have he := Lib.hid (show k + l.length + avalsLen (l.take l.length) = k + AtomS_cnt l by rw [List.take_length]; unfold AtomS_cnt; omega)
      go_wp2
      go_ret
      exact ⟨ret_int (by rw [he.out]), hO', hW⟩
theorem markAtomS_c (B C : Nat) (v : Value) (l : List Atm) (k : Nat) (w : World) (h : AtomS_own B C v l w) (hn : AtomS_sz l ≤ 1048576) (_ : 1 ≤ k) (hk : k ≤ 1000000000) :
    Calls Tryz.prog 33 #[v, .int .i64 (k : Int)] w fun e w' => e = .returned (.int .i64 ((k + AtomS_cnt l : Nat) : Int)) ∧ AtomS_own B C v (AtomS_mk k l) w' ∧ Chg (Mid B C) w w' := by
  obtain ⟨Vs, hS⟩ := h
  exact (markAtomS_any B C v Vs l k w hS hn (by omega)).mono fun _ _ ⟨he, ho, hc⟩ => ⟨he, ⟨Vs, ho⟩, hc.mono hS.foot⟩

set_option maxHeartbeats 800000 in
theorem szAtomS_c (v : Value) (l : List Atm) (left : Int) (w : World) (hl : AtomS_at w w.heap.size v l) (hw : AtomS_wf l) (h0 : 0 ≤ left) (h1 : left ≤ 1048576) :
    Calls Tryz.prog 34 #[v, .int .i64 left] w fun e w' => e = .returned (.int .i64 (szLeft left (AtomS_sz l : Nat))) ∧ Below w.heap.size w w' := by
  have HL := Lib.hid hl
  obtain ⟨A, c, rfl, hlc, hcm⟩ := hl.form
  clear hl
  unfold maxLen at hcm
  have hsz : ((AtomS_sz l : Nat) : Int) = (l.length : Int) + (avalsLen l : Nat) := by unfold AtomS_sz; omega
  rw [hsz]
  clear hsz
  by_cases hn : (l.length : Int) ≤ left
  · go_enter Tryz.func34, Tryz.ntmps34
    go_wp2
    go_loopw [1, 5] (fun lf i wr => ∃ k : Nat, k ≤ l.length ∧ i = .int .i64 k ∧ lf = .int .i64 (left - l.length - (avalsLen (l.take k) : Nat)) ∧ (l.length : Int) + (avalsLen (l.take k) : Nat) ≤ left ∧ Below w.heap.size w wr) (fun _ i _ => l.length - (intOf i).toNat)
    case atStart => exact ⟨0, by omega, rfl, by simp [avalsLen], by simp [avalsLen]; omega, Below.refl _ _⟩
    case round =>
      obtain ⟨k, hk, rfl, rfl, hle, hW⟩ := hrel
      have hz := hW.size
      by_cases hlt : k < l.length
      · obtain ⟨b, off, V, rfl, hb, c0, c1, hV⟩ := AtomS_at.elem (HL.out.below hW (Nat.le_refl _)) k hlt
        have HT := Lib.hid (avalsLen_take l k hlt)
        have HLE := Lib.hid (avalsLen_le l (k + 1))
        generalize avalsLen (l.take k) = q at *
        have hq : 0 ≤ left - l.length - (q : Int) := by omega
        have hat : Atom_at wr wr.heap.size (.agg #[.int .i64 l[k].rel, V]) l[k] := ⟨V, rfl, hV.more hz⟩
        have hsz := szAtom_c _ l[k] (left - l.length - (q : Int)) wr hat (hw k hlt) hq (by omega)
        unfold Atom_sz at hsz
        clear hat
        by_cases hfit : (l[k].vals.length : Int) ≤ left - l.length - (q : Int)
        · rw [szLeft_yes hfit] at hsz
          have e1 : left - l.length - (q : Int) - (l[k].vals.length : Nat) = left - l.length - ((q + l[k].vals.length : Nat) : Int) := by omega
          rw [e1] at hsz
          clear e1
          go_wp2_with (go_at_call 49; refine hsz.mono ?_; rintro e w1 ⟨rfl, hb1⟩)
          go_roundw
          case rel => exact ⟨k + 1, by omega, by go_num, by rw [HT.out]; go_num, by rw [HT.out]; omega, hW.trans (hb1.mono hz)⟩
          case measure => simp [intOf]; omega
        · rw [szLeft_no hfit] at hsz
          have e2 := Lib.hid (szLeft_no (left := left) (n := (l.length : Int) + (avalsLen l : Nat)) (by have := HT.out; have := HLE.out; omega))
          go_wp2_with (go_at_call 49; refine hsz.mono ?_; rintro e w1 ⟨rfl, hb1⟩)
          go_ret
          exact ⟨ret_int e2.out.symm, hW.trans (hb1.mono hz)⟩
      · obtain rfl : k = l.length := by omega
        have HT := Lib.hid (congrArg avalsLen (List.take_length (l := l)))
        generalize avalsLen (l.take l.length) = q at *
        have e2 := Lib.hid (szLeft_yes (left := left) (n := (l.length : Int) + (avalsLen l : Nat)) (by have := HT.out; omega))
        go_wp2
        go_ret
        exact ⟨ret_int (by rw [e2.out]; have := HT.out; omega), hW⟩
  · have e2 := Lib.hid (szLeft_no (left := left) (n := (l.length : Int) + (avalsLen l : Nat)) (by omega))
    go_enter Tryz.func34, Tryz.ntmps34
    go_wp2
    go_ret
    exact ⟨ret_int e2.out.symm, Below.refl _ _⟩

set_option maxHeartbeats 1600000 in
theorem toAtomS_c (v : Value) (l : List Atm) (w : World) (hl : AtomS_at w w.heap.size v l) (hn : AtomS_sz l ≤ 1048576) :
    Calls Tryz.prog 40 #[v] w fun e w' => ∃ u, e = .returned u ∧ AtomS_own w.heap.size w'.heap.size u l w' ∧ Below w.heap.size w w' := by
  have HL := Lib.hid hl
  obtain ⟨A, c, rfl, hlc, hcm⟩ := hl.form
  clear hl
  unfold maxLen at hcm
  have hn1 : l.length ≤ 1048576 := by unfold AtomS_sz at hn; omega
  have hel : ∀ k (h : k < l.length), Atom_sz l[k] ≤ 1048576 := fun k h => by
    have h1 := avalsLen_take l k h
    have h2 := avalsLen_le l (k + 1)
    unfold AtomS_sz at hn; unfold Atom_sz; omega
  have hmk := fun w => make_atoms w l.length hn1
  go_enter Tryz.func40, Tryz.ntmps40
  go_wp2
  clear hmk
  go_loopw [4] (fun i wr => ∃ k : Nat, ∃ Vs, k ≤ l.length ∧ i = .int .i64 k ∧ AtomSO 72 w.heap.size wr.heap.size (.slice (some ⟨w.heap.size, 0, none⟩) l.length l.length) Vs (l.take k ++ List.replicate (l.length - k) zeroAtm) wr ∧ Below w.heap.size w wr) (fun i _ => l.length - (intOf i).toNat)
  case atStart => exact ⟨0, _, by omega, rfl, (AtomSO.made w l.length hn1).mono (Nat.le_refl _) (by simp), (Below.refl _ _).alloc (Nat.le_refl _) _⟩
  case round =>
    obtain ⟨k, Vs, hk, rfl, hO, hW⟩ := hrel
    have hz := hW.size
    by_cases hlt : k < l.length
    · obtain ⟨b, off, V, rfl, hb, c0, c1, hV⟩ := AtomS_at.elem (HL.out.below hW (Nat.le_refl _)) k hlt
      have hcon := toAtom_c _ l[k] wr ⟨V, rfl, hV.more hz⟩ (hel k hlt)
      have hlen : (l.take k ++ List.replicate (l.length - k) zeroAtm).length = l.length := by simp; omega
      have hkl : k < (l.take k ++ List.replicate (l.length - k) zeroAtm).length := by omega
      have hkv : k < Vs.length := by rw [hO.len]; exact hkl
      have HLen := Lib.hid hlen
      have HO := Lib.hid hO
      clear hlen hO
      go_wp2_with fail
      refine hcon.mono ?_
      rintro e w1 ⟨u, rfl, hu, hb1⟩
      have hz1 := hb1.size
      obtain ⟨U, rfl, hU⟩ := hu
      obtain ⟨P, cu, rfl, -, -, -⟩ := hU.1.at_
      have hO1 := HO.out.below hb1 (Nat.le_refl _)
      obtain ⟨d0, d1⟩ := hO1.cells HLen.out k hkl hkv
      have hfz := hO1.frozen HLen.out
      have HS := Lib.hid (AtomSO.set (e := 72) (by decide) (hO1.mono (Nat.le_refl _) hz1) HLen.out k hlt l[k] _ (hU.mono hz (Nat.le_refl _)) (fun i hi _ q hq1 hq2 => by
        have h1 := (hU.1.lt q hq2).1
        have h2 := (HO.out.el i (by have := HO.out.len; omega) hi).2 q hq1
        omega))
      clear hO1
      go_wp2
      go_roundw
      case rel => exact ⟨k + 1, _, by omega, by go_num, by rw [← take_zero_atm l k hlt]; exact HS.out.mono (Nat.le_refl _) (by simp [World.setCell]), ((hW.trans (hb1.mono hz)).setCell (p := ⟨w.heap.size, k * 2, none⟩) (Nat.le_refl _) _).setCell (p := ⟨w.heap.size, k * 2 + 1, none⟩) (Nat.le_refl _) _⟩
      case measure => simp [intOf]; omega
    · obtain rfl : k = l.length := by omega
      have hO' : AtomSO 72 w.heap.size wr.heap.size (.slice (some ⟨w.heap.size, 0, none⟩) l.length l.length) Vs l wr := by simpa using hO
      clear hO
      go_wp2
      go_ret
      exact ⟨_, rfl, ⟨Vs, hO'⟩, hW⟩

end Go.Proofs.YtakflmaeclneiaaGreat
