/-
  Walks and plain lemmas for the laws of this seat: what single Go functions return, for every argument.
-/
import Derived.Test.YteogknfhafdbmaaGreatDoorTyInst
import Derived.Test.YteogknfhafdbmaaGreatDoorFactC
namespace Go.Proofs.YteogknfhafdbmaaGreatDoor
open Go.RowKit

set_option maxHeartbeats 1600000 in
theorem eqFactS_c (v u : Value) (l : List Fct) (w : World) (hl : FactS_at w w.heap.size v l) (hm : FactS_at w w.heap.size u l) :
    Calls Tryz.prog 41 #[v, u] w fun e w' => e = .returned (.bool true) ∧ Below w.heap.size w w' := by
  have HL := Lib.hid hl
  have HM := Lib.hid hm
  obtain ⟨A, c, rfl, hlc, hcm⟩ := hl.form
  obtain ⟨A', c', rfl, hlc', hcm'⟩ := hm.form
  clear hl hm
  unfold maxLen at hcm hcm'
  go_enter Tryz.func41, Tryz.ntmps41
  go_wp2
  go_loopw [5] (fun i wr => ∃ k : Nat, k ≤ l.length ∧ i = .int .i64 k ∧ Below w.heap.size w wr) (fun i _ => l.length - (intOf i).toNat)
  case atStart => exact ⟨0, by omega, rfl, Below.refl _ _⟩
  case round =>
    obtain ⟨k, hk, rfl, hW⟩ := hrel
    have hz := hW.size
    by_cases hlt : k < l.length
    · obtain ⟨b, off, V, rfl, hb, c0, c1, hV⟩ := FactS_at.elem HL.out k hlt
      obtain ⟨b', off', V', rfl, hb', d0, d1, hV'⟩ := FactS_at.elem HM.out k hlt
      have C0 := Aft.cell hb c0
      have C1 := Aft.cell hb c1
      have D0 := Aft.cell hb' d0
      have D1 := Aft.cell hb' d1
      have hcon := fun (u : Aft w.heap.size w) => eqFact_c (.agg #[.int .i64 l[k].rel, V]) (.agg #[.int .i64 l[k].rel, V']) l[k] u.now ⟨V, rfl, (hV.below u.is (Nat.le_refl _)).more u.is.size⟩ ⟨V', rfl, (hV'.below u.is (Nat.le_refl _)).more u.is.size⟩
      clear c0 c1 d0 d1
      go_wp2
      refine wp_region_aft hW (by kernel_rfl) (by kernel_rfl) ?_
      repeat (go_big_quiet_step (((go_at_call 9; exact calls_aft (Nat.le_refl _) (hcon _)))))
      refine wpQuiet_nil ?_
      refine aft_end ?_
      intro w1 hh
      go_wp2
      go_roundw
      case rel => exact ⟨k + 1, by omega, by go_num, hh⟩
      case measure => simp [intOf]; omega
    · obtain rfl : k = l.length := by omega
      go_wp2
      go_ret
      exact ⟨rfl, hW⟩

/-- the first i facts marked, the others as they were -/
def mkTo (k : Nat) (l : List Fct) (i : Nat) : List Fct := (FactS_mk k l).take i ++ l.drop i
theorem mkTo_len (k : Nat) (l : List Fct) (i : Nat) (h : i ≤ l.length) : (mkTo k l i).length = l.length := by unfold mkTo; rw [List.length_append, List.length_take, FactS_mk_len, List.length_drop]; omega
theorem mkTo_at (k : Nat) (l : List Fct) (i : Nat) (h : i < l.length) (h' : i < (mkTo k l i).length) : (mkTo k l i)[i] = l[i] := by
  have e : ((FactS_mk k l).take i).length = i := by rw [List.length_take, FactS_mk_len]; omega
  simp only [mkTo]
  rw [List.getElem_append_right (by omega)]
  simp [e]
theorem mkTo_succ (k : Nat) (l : List Fct) (i : Nat) (h : i < l.length) : (mkTo k l i).set i (markFct k l i) = mkTo k l (i + 1) := by
  have e : ((FactS_mk k l).take i).length = i := by rw [List.length_take, FactS_mk_len]; omega
  unfold mkTo
  rw [List.set_append_right _ _ (by omega), e, Nat.sub_self, List.drop_eq_getElem_cons h, List.set_cons_zero, List.take_succ_eq_append_getElem (by rw [FactS_mk_len]; exact h), FactS_mk_at, List.append_assoc]
  rfl
/-- the blocks of a slice of facts -/
def FootF (v : Value) (Vs : List Value) : Nat → Prop := fun q => v.ownBlock = some q ∨ ∃ V ∈ Vs, V.ownBlock = some q
set_option maxHeartbeats 1600000 in
set_option maxRecDepth 100000 in
theorem markFactS_any (B C : Nat) (v : Value) (Vs : List Value) (l : List Fct) (k : Nat) (w : World) (hS : FactSO 26 B C v Vs l w) (hn : FactS_sz l ≤ 1048576) (hk : k ≤ 100000000000) :
    Calls Tryz.prog 42 #[v, .int .i64 (k : Int)] w fun e w' => e = .returned (.int .i64 ((k + FactS_cnt l : Nat) : Int)) ∧ FactSO 26 B C v Vs (FactS_mk k l) w' ∧ Chg (FootF v Vs) w w' := by
  obtain ⟨A, c, rfl, hc1, hc2⟩ := (hS.at_ (Nat.le_refl _)).form
  unfold maxLen at hc2
  have hn1 : l.length + valsLen l ≤ 1048576 := hn
  go_enter Tryz.func42, Tryz.ntmps42
  go_wp2
  go_loopw [1, 5] (fun x j wr => ∃ i : Nat, i ≤ l.length ∧ j = .int .i64 (i : Int) ∧ x = .int .i64 ((k + i + valsLen (l.take i) : Nat) : Int) ∧ FactSO 26 B C (.slice A l.length c) Vs (mkTo k l i) wr ∧ Chg (FootF (.slice A l.length c) Vs) w wr) (fun _ j _ => l.length - (intOf j).toNat)
  case atStart => exact ⟨0, by omega, rfl, by simp [valsLen], by simpa [mkTo] using hS, Chg.refl _ _⟩
  case round =>
    clear hS
    obtain ⟨i, hi, rfl, rfl, hO, hW⟩ := hrel
    have hml := mkTo_len k l i hi
    by_cases hlt : i < l.length
    · have hil : i < (mkTo k l i).length := by omega
      have hiv : i < Vs.length := by rw [hO.len]; exact hil
      have hv1 := valsLen_take l i hlt
      have hv2 := valsLen_le l (i + 1)
      have hrow := hO.row
      rw [pairs_len hO.len, hml] at hrow
      obtain ⟨g, cap, hv, hg0, hg1⟩ := World.ownsRow.form hrow (by omega)
      simp only [Value.slice.injEq] at hv
      obtain ⟨rfl, -, rfl⟩ := hv
      clear hrow
      have HML := Lib.hid hml
      obtain ⟨d0, d1⟩ := hO.cells hml i hil hiv
      have hfz := hO.frozen hml
      have h1 := FactSO.setRel (e := 26) (by decide) hO hml i hil ((k + i + valsLen (l.take i) : Nat) : Int)
      have hin := h1.el i (by rw [List.length_set]; exact hil) hiv
      have hvals : ((mkTo k l i).set i ⟨((k + i + valsLen (l.take i) : Nat) : Int), (mkTo k l i)[i].vals⟩)[i]'(by rw [List.length_set]; exact hil) = ⟨((k + i + valsLen (l.take i) : Nat) : Int), l[i].vals⟩ := by
        rw [List.getElem_set_self, mkTo_at k l i hlt hil]
      rw [hvals] at hin
      have hcon := markIntS_any B Vs[i] l[i].vals (k + i + valsLen (l.take i) + 1) _ hin.1 (by omega) (by omega)
      rw [show (((k + i + valsLen (l.take i) + 1 : Nat)) : Int) = ((k + i + valsLen (l.take i) : Nat) : Int) + 1 by omega] at hcon
      have HC := Lib.hid hcon
      have H1 := Lib.hid h1
      have HIN := Lib.hid hin
      clear hcon h1 hin hvals hml hO
      have hd1 : (wr.setCell ⟨g, i * 2, none⟩ (.int .i64 ((k + i + valsLen (l.take i) : Nat) : Int))).cell? ⟨g, i * 2 + 1, none⟩ = some Vs[i] := by simp [go_sem, d1]
      obtain ⟨K, hK⟩ : ∃ K, K = k + i + valsLen (l.take i) := ⟨_, rfl⟩
      have HKs := Lib.hid (show K + 1 + l[i].vals.length = k + (i + 1) + valsLen (l.take (i + 1)) by rw [hK, hv1]; omega)
      have HKm := Lib.hid (show (⟨(K : Int), markInts (K + 1) l[i].vals.length⟩ : Fct) = markFct k l i by
        unfold markFct; rw [hK, show l.getD i default = l[i] by simp [List.getD, List.getElem?_eq_getElem hlt]])
      have hKb : K ≤ 200000000000 := by omega
      rw [← hK] at HC H1 HIN hd1 ⊢
      clear hK
      go_wp2_with fail
      refine HC.out.mono ?_
      rintro e w2 ⟨rfl, hV2, hC2⟩
      have H2 := Lib.hid (FactSO.setVals (e := 26) (by decide) H1.out i (by rw [List.length_set]; exact hil) hiv (markInts (K + 1) l[i].vals.length) ⟨hV2, HIN.out.2⟩ hC2)
      have hc2 : Chg (FootF (.slice (some ⟨g, 0, none⟩) l.length c) Vs) w w2 := (hW.setCell (p := ⟨g, i * 2, none⟩) (.inl rfl) _).trans (hC2.mono fun q hq => .inr ⟨Vs[i], List.getElem_mem hiv, hq⟩)
      clear HC hC2 hV2
      go_wp2
      go_roundw
      case rel =>
        refine ⟨i + 1, by omega, by go_num, by rw [← HKs.out]; go_num, ?_, hc2⟩
        have := H2.out
        rw [List.getElem_set_self, List.set_set] at this
        rw [← mkTo_succ k l i hlt, ← HKm.out]
        exact this
      case measure => simp [intOf]; omega
    · obtain rfl : i = l.length := by omega
      have hO' : FactSO 26 B C (.slice A l.length c) Vs (FactS_mk k l) wr := by
        have := hO
        unfold mkTo at this
        rwa [List.drop_length, List.append_nil, List.take_of_length_le (by rw [FactS_mk_len]; exact Nat.le_refl _)] at this
      clear hO
      have he := Lib.hid (show k + l.length + valsLen (l.take l.length) = k + FactS_cnt l by rw [List.take_length]; unfold FactS_cnt; omega)
      go_wp2
      go_ret
      exact ⟨ret_int (by rw [he.out]), hO', hW⟩
theorem FactSO.foot {e : TypeId} {B C : Nat} {v : Value} {Vs : List Value} {l : List Fct} {w : World} (h : FactSO e B C v Vs l w) : ∀ q, FootF v Vs q → Mid B C q := by
  rintro q (hq | ⟨V, hV, hq⟩)
  · exact ⟨(World.ownsRow.lt h.row q hq).1, h.ins q hq⟩
  · obtain ⟨i, hi, rfl⟩ := List.getElem_of_mem hV
    have he := h.el i (by have := h.len; omega) hi
    exact ⟨(he.1.lt q hq).1, he.2 q hq⟩
theorem markFactS_c (B C : Nat) (v : Value) (l : List Fct) (k : Nat) (w : World) (h : FactS_own B C v l w) (hn : FactS_sz l ≤ 1048576) (_ : 1 ≤ k) (hk : k ≤ 1000000000) :
    Calls Tryz.prog 42 #[v, .int .i64 (k : Int)] w fun e w' => e = .returned (.int .i64 ((k + FactS_cnt l : Nat) : Int)) ∧ FactS_own B C v (FactS_mk k l) w' ∧ Chg (Mid B C) w w' := by
  obtain ⟨Vs, hS⟩ := h
  exact (markFactS_any B C v Vs l k w hS hn (by omega)).mono fun _ _ ⟨he, ho, hc⟩ => ⟨he, ⟨Vs, ho⟩, hc.mono hS.foot⟩

set_option maxHeartbeats 1600000 in
set_option maxRecDepth 100000 in
theorem heldFactS_c (v : Value) (l : List Fct) (k : Nat) (w : World) (h : FactS_at w w.heap.size v (FactS_mk k l)) (hn : FactS_sz l ≤ 1048576) (_ : 1 ≤ k) (hk : k ≤ 1000000000) :
    Calls Tryz.prog 44 #[v, .int .i64 (k : Int)] w fun e w' => e = .returned (.int .i64 ((k + FactS_cnt l : Nat) : Int)) ∧ Below w.heap.size w w' := by
  have HL := Lib.hid h
  have hml := FactS_mk_len k l
  obtain ⟨A, c, rfl, hc1, hc2⟩ := h.form
  clear h
  rw [hml] at hc1
  unfold maxLen at hc2
  have HLn : Hid (FactS_at w w.heap.size (.slice A l.length c) (FactS_mk k l)) := Lib.hid (by have := HL.out; rwa [hml] at this)
  have hn1 : l.length + valsLen l ≤ 1048576 := hn
  rw [hml]
  have HML := Lib.hid hml
  clear HL hml hn
  go_enter Tryz.func44, Tryz.ntmps44
  go_wp2
  go_loop [1, 5] (fun x j => ∃ i : Nat, i ≤ l.length ∧ j = .int .i64 (i : Int) ∧ x = .int .i64 ((k + i + valsLen (l.take i) : Nat) : Int)) (fun _ j => l.length - (intOf j).toNat)
  case atStart => exact ⟨0, by omega, rfl, by simp [valsLen]⟩
  case round =>
    obtain ⟨i, hi, rfl, rfl⟩ := hrel
    by_cases hlt : i < l.length
    · have him : i < (FactS_mk k l).length := by rw [HML.out]; exact hlt
      have HL2 : FactS_at w w.heap.size (.slice A (FactS_mk k l).length c) (FactS_mk k l) := by rw [HML.out]; exact HLn.out
      obtain ⟨b, off, V, rfl, hb, c0, c1, hV⟩ := FactS_at.elem HL2 i him
      have hv1 := valsLen_take l i hlt
      have hv2 := valsLen_le l (i + 1)
      rw [FactS_mk_at] at c0 hV
      obtain ⟨K, hK⟩ : ∃ K, K = k + i + valsLen (l.take i) := ⟨_, rfl⟩
      have hr : (markFct k l i).rel = (K : Int) := by rw [hK]; rfl
      have hvs : (markFct k l i).vals = markInts (K + 1) l[i].vals.length := by
        unfold markFct; rw [hK, show l.getD i default = l[i] by simp [List.getD, List.getElem?_eq_getElem hlt]]
      rw [hr] at c0
      rw [hvs] at hV
      have hcon := heldIntS_any V l[i].vals.length (K + 1) _ w hV (by omega) (by omega)
      rw [show ((K + 1 : Nat) : Int) = (K : Int) + 1 by omega] at hcon
      have HKs := Lib.hid (show K + 1 + l[i].vals.length = k + (i + 1) + valsLen (l.take (i + 1)) by rw [hK, hv1]; omega)
      have hKb : K ≤ 1010000000 := by omega
      rw [← hK]
      clear hr hvs hV HL2 hK
      go_wp2_with (go_at_call 35; refine hcon.mono ?_; rintro e w1 ⟨rfl, rfl⟩)
      go_round
      case rel => exact ⟨i + 1, by omega, by go_num, by rw [← HKs.out]; go_num⟩
      case measure => simp [intOf]; omega
    · obtain rfl : i = l.length := by omega
      go_wp2
      go_ret
      exact ⟨ret_int (by unfold FactS_cnt; omega), Below.refl _ _⟩

end Go.Proofs.YteogknfhafdbmaaGreatDoor
