/-
  Walks and plain lemmas for the laws of this seat: what single Go functions return, for every argument.
-/
import Derived.Test.YtobdijcnfmgidaaGreatRelsC
import Derived.Test.YtobdijcnfmgidaaGreatKpM
import Derived.Test.YtobdijcnfmgidaaGreatFactC
namespace Go.Proofs.YtobdijcnfmgidaaGreat
open Go.RowKit

set_option maxHeartbeats 1600000 in
theorem eqFactS_c (v u : Value) (l : List Fct) (w : World) (hl : FactS_at w w.heap.size v l) (hm : FactS_at w w.heap.size u l) :
    Calls Tryz.prog 58 #[v, u] w fun e w' => e = .returned (.bool true) ∧ Below w.heap.size w w' := by
  have HL := Lib.hid hl
  have HM := Lib.hid hm
  obtain ⟨A, c, rfl, hlc, hcm⟩ := hl.form
  obtain ⟨A', c', rfl, hlc', hcm'⟩ := hm.form
  clear hl hm
  unfold maxLen at hcm hcm'
  go_enter Tryz.func58, Tryz.ntmps58
  go_wp2
  go_loopw [5] (fun i wr => ∃ k : Nat, k ≤ l.length ∧ i = .int .i64 k ∧ Below w.heap.size w wr) (fun i _ => l.length - (intOf i).toNat)
  case atStart => exact ⟨0, by omega, rfl, Below.refl _ _⟩
  case round =>
    obtain ⟨k, hk, rfl, hW⟩ := hrel
    have hz := hW.size
    by_cases hlt : k < l.length
    · obtain ⟨b, off, V, rfl, hb, c0, c1, hV⟩ := FactS_at.elem HL.out k hlt
      obtain ⟨b', off', V', rfl, hb', d0, d1, hV'⟩ := FactS_at.elem HM.out k hlt
      have C0 := Aft.cell hb c0
      have C1 := Aft.cell hb c1
      have D0 := Aft.cell hb' d0
      have D1 := Aft.cell hb' d1
      have hcon := fun (u : Aft w.heap.size w) => eqFact_c (.agg #[.int .i64 l[k].rel, V]) (.agg #[.int .i64 l[k].rel, V']) l[k] u.now ⟨V, rfl, (hV.below u.is (Nat.le_refl _)).more u.is.size⟩ ⟨V', rfl, (hV'.below u.is (Nat.le_refl _)).more u.is.size⟩
      clear c0 c1 d0 d1
      go_wp2
      refine wp_region_aft hW (by kernel_rfl) (by kernel_rfl) ?_
      repeat (go_big_quiet_step (((go_at_call 111; exact calls_aft (Nat.le_refl _) (hcon _)))))
      refine wpQuiet_nil ?_
      refine aft_end ?_
      intro w1 hh
      go_wp2
      go_roundw
      case rel => exact ⟨k + 1, by omega, by go_num, hh⟩
      case measure => simp [intOf]; omega
    · obtain rfl : k = l.length := by omega
      go_wp2
      go_ret
      exact ⟨rfl, hW⟩

/-- the first i facts marked, the others as they were -/
def mkTo (k : Nat) (l : List Fct) (i : Nat) : List Fct := (FactS_mk k l).take i ++ l.drop i
theorem mkTo_len (k : Nat) (l : List Fct) (i : Nat) (h : i ≤ l.length) : (mkTo k l i).length = l.length := by unfold mkTo; rw [List.length_append, List.length_take, FactS_mk_len, List.length_drop]; omega
theorem mkTo_at (k : Nat) (l : List Fct) (i : Nat) (h : i < l.length) (h' : i < (mkTo k l i).length) : (mkTo k l i)[i] = l[i] := by
  have e : ((FactS_mk k l).take i).length = i := by rw [List.length_take, FactS_mk_len]; omega
  simp only [mkTo]
  rw [List.getElem_append_right (by omega)]
  simp [e]
theorem mkTo_succ (k : Nat) (l : List Fct) (i : Nat) (h : i < l.length) : (mkTo k l i).set i (markFct k l i) = mkTo k l (i + 1) := by
  have e : ((FactS_mk k l).take i).length = i := by rw [List.length_take, FactS_mk_len]; omega
  unfold mkTo
  rw [List.set_append_right _ _ (by omega), e, Nat.sub_self, List.drop_eq_getElem_cons h, List.set_cons_zero, List.take_succ_eq_append_getElem (by rw [FactS_mk_len]; exact h), FactS_mk_at, List.append_assoc]
  rfl
/-- the blocks of a slice of facts -/
def FootF (v : Value) (Vs : List Value) : Nat → Prop := fun q => v.ownBlock = some q ∨ ∃ V ∈ Vs, V.ownBlock = some q
set_option maxHeartbeats 1600000 in
set_option maxRecDepth 100000 in
theorem markFactS_any (B C : Nat) (v : Value) (Vs : List Value) (l : List Fct) (k : Nat) (w : World) (hS : FactSO 66 B C v Vs l w) (hn : FactS_sz l ≤ 1048576) (hk : k ≤ 100000000000) :
    Calls Tryz.prog 61 #[v, .int .i64 (k : Int)] w fun e w' => e = .returned (.int .i64 ((k + FactS_cnt l : Nat) : Int)) ∧ FactSO 66 B C v Vs (FactS_mk k l) w' ∧ Chg (FootF v Vs) w w' := by
  obtain ⟨A, c, rfl, hc1, hc2⟩ := (hS.at_ (Nat.le_refl _)).form
  unfold maxLen at hc2
  have hn1 : l.length + valsLen l ≤ 1048576 := hn
  go_enter Tryz.func61, Tryz.ntmps61
  go_wp2
  go_loopw [1, 5] (fun x j wr => ∃ i : Nat, i ≤ l.length ∧ j = .int .i64 (i : Int) ∧ x = .int .i64 ((k + i + valsLen (l.take i) : Nat) : Int) ∧ FactSO 66 B C (.slice A l.length c) Vs (mkTo k l i) wr ∧ Chg (FootF (.slice A l.length c) Vs) w wr) (fun _ j _ => l.length - (intOf j).toNat)
  case atStart => exact ⟨0, by omega, rfl, by simp [valsLen], by simpa [mkTo] using hS, Chg.refl _ _⟩
  case round =>
    clear hS
    obtain ⟨i, hi, rfl, rfl, hO, hW⟩ := hrel
    have hml := mkTo_len k l i hi
    by_cases hlt : i < l.length
    · have hil : i < (mkTo k l i).length := by omega
      have hiv : i < Vs.length := by rw [hO.len]; exact hil
      have hv1 := valsLen_take l i hlt
      have hv2 := valsLen_le l (i + 1)
      have hrow := hO.row
      rw [pairs_len hO.len, hml] at hrow
      obtain ⟨g, cap, hv, hg0, hg1⟩ := World.ownsRow.form hrow (by omega)
      simp only [Value.slice.injEq] at hv
      obtain ⟨rfl, -, rfl⟩ := hv
      clear hrow
      have HML := Lib.hid hml
      obtain ⟨d0, d1⟩ := hO.cells hml i hil hiv
      have hfz := hO.frozen hml
      have h1 := FactSO.setRel (e := 66) (by decide) hO hml i hil ((k + i + valsLen (l.take i) : Nat) : Int)
      have hin := h1.el i (by rw [List.length_set]; exact hil) hiv
      have hvals : ((mkTo k l i).set i ⟨((k + i + valsLen (l.take i) : Nat) : Int), (mkTo k l i)[i].vals⟩)[i]'(by rw [List.length_set]; exact hil) = ⟨((k + i + valsLen (l.take i) : Nat) : Int), l[i].vals⟩ := by
        rw [List.getElem_set_self, mkTo_at k l i hlt hil]
      rw [hvals] at hin
      have hcon := markIntS_any B Vs[i] l[i].vals (k + i + valsLen (l.take i) + 1) _ hin.1 (by omega) (by omega)
      rw [show (((k + i + valsLen (l.take i) + 1 : Nat)) : Int) = ((k + i + valsLen (l.take i) : Nat) : Int) + 1 by omega] at hcon
      have HC := Lib.hid hcon
      have H1 := Lib.hid h1
      have HIN := Lib.hid hin
      clear hcon h1 hin hvals hml hO
      have hd1 : (wr.setCell ⟨g, i * 2, none⟩ (.int .i64 ((k + i + valsLen (l.take i) : Nat) : Int))).cell? ⟨g, i * 2 + 1, none⟩ = some Vs[i] := by simp [go_sem, d1]
      obtain ⟨K, hK⟩ : ∃ K, K = k + i + valsLen (l.take i) := ⟨_, rfl⟩
      have HKs := Lib.hid (show K + 1 + l[i].vals.length = k + (i + 1) + valsLen (l.take (i + 1)) by rw [hK, hv1]; omega)
      have HKm := Lib.hid (show (⟨(K : Int), markInts (K + 1) l[i].vals.length⟩ : Fct) = markFct k l i by
        unfold markFct; rw [hK, show l.getD i default = l[i] by simp [List.getD, List.getElem?_eq_getElem hlt]])
      have hKb : K ≤ 200000000000 := by omega
      rw [← hK] at HC H1 HIN hd1 ⊢
      clear hK
      go_wp2_with fail
      refine HC.out.mono ?_
      rintro e w2 ⟨rfl, hV2, hC2⟩
      have H2 := Lib.hid (FactSO.setVals (e := 66) (by decide) H1.out i (by rw [List.length_set]; exact hil) hiv (markInts (K + 1) l[i].vals.length) ⟨hV2, HIN.out.2⟩ hC2)
      have hc2 : Chg (FootF (.slice (some ⟨g, 0, none⟩) l.length c) Vs) w w2 := (hW.setCell (p := ⟨g, i * 2, none⟩) (.inl rfl) _).trans (hC2.mono fun q hq => .inr ⟨Vs[i], List.getElem_mem hiv, hq⟩)
      clear HC hC2 hV2
      go_wp2
      go_roundw
      case rel =>
        refine ⟨i + 1, by omega, by go_num, by rw [← HKs.out]; go_num, ?_, hc2⟩
        have := H2.out
        rw [List.getElem_set_self, List.set_set] at this
        rw [← mkTo_succ k l i hlt, ← HKm.out]
        exact this
      case measure => simp [intOf]; omega
    · obtain rfl : i = l.length := by omega
      have hO' : FactSO 66 B C (.slice A l.length c) Vs (FactS_mk k l) wr := by
        have := hO
        unfold mkTo at this
        rwa [List.drop_length, List.append_nil, List.take_of_length_le (by rw [FactS_mk_len]; exact Nat.le_refl _)] at this
      clear hO
      have he := Lib.hid (show k + l.length + valsLen (l.take l.length) = k + FactS_cnt l by rw [List.take_length]; unfold FactS_cnt; omega)
      go_wp2
      go_ret
      exact ⟨ret_int (by rw [he.out]), hO', hW⟩
theorem FactSO.foot {e : TypeId} {B C : Nat} {v : Value} {Vs : List Value} {l : List Fct} {w : World} (h : FactSO e B C v Vs l w) : ∀ q, FootF v Vs q → Mid B C q := by
  rintro q (hq | ⟨V, hV, hq⟩)
  · exact ⟨(World.ownsRow.lt h.row q hq).1, h.ins q hq⟩
  · obtain ⟨i, hi, rfl⟩ := List.getElem_of_mem hV
    have he := h.el i (by have := h.len; omega) hi
    exact ⟨(he.1.lt q hq).1, he.2 q hq⟩
theorem markFactS_c (B C : Nat) (v : Value) (l : List Fct) (k : Nat) (w : World) (h : FactS_own B C v l w) (hn : FactS_sz l ≤ 1048576) (_ : 1 ≤ k) (hk : k ≤ 1000000000) :
    Calls Tryz.prog 61 #[v, .int .i64 (k : Int)] w fun e w' => e = .returned (.int .i64 ((k + FactS_cnt l : Nat) : Int)) ∧ FactS_own B C v (FactS_mk k l) w' ∧ Chg (Mid B C) w w' := by
  obtain ⟨Vs, hS⟩ := h
  exact (markFactS_any B C v Vs l k w hS hn (by omega)).mono fun _ _ ⟨he, ho, hc⟩ => ⟨he, ⟨Vs, ho⟩, hc.mono hS.foot⟩

set_option maxHeartbeats 800000 in
theorem szFactS_c (v : Value) (l : List Fct) (left : Int) (w : World) (hl : FactS_at w w.heap.size v l) (hw : FactS_wf l) (h0 : 0 ≤ left) (h1 : left ≤ 1048576) :
    Calls Tryz.prog 52 #[v, .int .i64 left] w fun e w' => e = .returned (.int .i64 (szLeft left (FactS_sz l : Nat))) ∧ Below w.heap.size w w' := by
  have HL := Lib.hid hl
  obtain ⟨A, c, rfl, hlc, hcm⟩ := hl.form
  clear hl
  unfold maxLen at hcm
  have hsz : ((FactS_sz l : Nat) : Int) = (l.length : Int) + (valsLen l : Nat) := by unfold FactS_sz; omega
  rw [hsz]
  clear hsz
  by_cases hn : (l.length : Int) ≤ left
  · go_enter Tryz.func52, Tryz.ntmps52
    go_wp2
    go_loopw [1, 5] (fun lf i wr => ∃ k : Nat, k ≤ l.length ∧ i = .int .i64 k ∧ lf = .int .i64 (left - l.length - (valsLen (l.take k) : Nat)) ∧ (l.length : Int) + (valsLen (l.take k) : Nat) ≤ left ∧ Below w.heap.size w wr) (fun _ i _ => l.length - (intOf i).toNat)
    case atStart => exact ⟨0, by omega, rfl, by simp [valsLen], by simp [valsLen]; omega, Below.refl _ _⟩
    case round =>
      obtain ⟨k, hk, rfl, rfl, hle, hW⟩ := hrel
      have hz := hW.size
      by_cases hlt : k < l.length
      · obtain ⟨b, off, V, rfl, hb, c0, c1, hV⟩ := FactS_at.elem (HL.out.below hW (Nat.le_refl _)) k hlt
        have HT := Lib.hid (valsLen_take l k hlt)
        have HLE := Lib.hid (valsLen_le l (k + 1))
        generalize valsLen (l.take k) = q at *
        have hq : 0 ≤ left - l.length - (q : Int) := by omega
        have hat : Fact_at wr wr.heap.size (.agg #[.int .i64 l[k].rel, V]) l[k] := ⟨V, rfl, hV.more hz⟩
        have hsz := szFact_c _ l[k] (left - l.length - (q : Int)) wr hat (hw k hlt) hq (by omega)
        unfold Fact_sz at hsz
        clear hat
        by_cases hfit : (l[k].vals.length : Int) ≤ left - l.length - (q : Int)
        · rw [szLeft_yes hfit] at hsz
          have e1 : left - l.length - (q : Int) - (l[k].vals.length : Nat) = left - l.length - ((q + l[k].vals.length : Nat) : Int) := by omega
          rw [e1] at hsz
          clear e1
          go_wp2_with (go_at_call 105; refine hsz.mono ?_; rintro e w1 ⟨rfl, hb1⟩)
          go_roundw
          case rel => exact ⟨k + 1, by omega, by go_num, by rw [HT.out]; go_num, by rw [HT.out]; omega, hW.trans (hb1.mono hz)⟩
          case measure => simp [intOf]; omega
        · rw [szLeft_no hfit] at hsz
          have e2 := Lib.hid (szLeft_no (left := left) (n := (l.length : Int) + (valsLen l : Nat)) (by have := HT.out; have := HLE.out; omega))
          go_wp2_with (go_at_call 105; refine hsz.mono ?_; rintro e w1 ⟨rfl, hb1⟩)
          go_ret
          exact ⟨ret_int e2.out.symm, hW.trans (hb1.mono hz)⟩
      · obtain rfl : k = l.length := by omega
        have HT := Lib.hid (congrArg valsLen (List.take_length (l := l)))
        generalize valsLen (l.take l.length) = q at *
        have e2 := Lib.hid (szLeft_yes (left := left) (n := (l.length : Int) + (valsLen l : Nat)) (by have := HT.out; omega))
        go_wp2
        go_ret
        exact ⟨ret_int (by rw [e2.out]; have := HT.out; omega), hW⟩
  · have e2 := Lib.hid (szLeft_no (left := left) (n := (l.length : Int) + (valsLen l : Nat)) (by omega))
    go_enter Tryz.func52, Tryz.ntmps52
    go_wp2
    go_ret
    exact ⟨ret_int e2.out.symm, Below.refl _ _⟩

set_option maxHeartbeats 1600000 in
theorem toFactS_c (v : Value) (l : List Fct) (w : World) (hl : FactS_at w w.heap.size v l) (hn : FactS_sz l ≤ 1048576) :
    Calls Tryz.prog 55 #[v] w fun e w' => ∃ u, e = .returned u ∧ FactS_own w.heap.size w'.heap.size u l w' ∧ Below w.heap.size w w' := by
  have HL := Lib.hid hl
  obtain ⟨A, c, rfl, hlc, hcm⟩ := hl.form
  clear hl
  unfold maxLen at hcm
  have hn1 : l.length ≤ 1048576 := by unfold FactS_sz at hn; omega
  have hel : ∀ k (h : k < l.length), Fact_sz l[k] ≤ 1048576 := fun k h => by
    have h1 := valsLen_take l k h
    have h2 := valsLen_le l (k + 1)
    unfold FactS_sz at hn; unfold Fact_sz; omega
  have hmk := fun w => make_facts w l.length hn1
  go_enter Tryz.func55, Tryz.ntmps55
  go_wp2
  clear hmk
  go_loopw [4] (fun i wr => ∃ k : Nat, ∃ Vs, k ≤ l.length ∧ i = .int .i64 k ∧ FactSO 66 w.heap.size wr.heap.size (.slice (some ⟨w.heap.size, 0, none⟩) l.length l.length) Vs (l.take k ++ List.replicate (l.length - k) zeroFct) wr ∧ Below w.heap.size w wr) (fun i _ => l.length - (intOf i).toNat)
  case atStart => exact ⟨0, _, by omega, rfl, (FactSO.made w l.length hn1).mono (Nat.le_refl _) (by simp), (Below.refl _ _).alloc (Nat.le_refl _) _⟩
  case round =>
    obtain ⟨k, Vs, hk, rfl, hO, hW⟩ := hrel
    have hz := hW.size
    by_cases hlt : k < l.length
    · obtain ⟨b, off, V, rfl, hb, c0, c1, hV⟩ := FactS_at.elem (HL.out.below hW (Nat.le_refl _)) k hlt
      have hcon := toFact_c _ l[k] wr ⟨V, rfl, hV.more hz⟩ (hel k hlt)
      have hlen : (l.take k ++ List.replicate (l.length - k) zeroFct).length = l.length := by simp; omega
      have hkl : k < (l.take k ++ List.replicate (l.length - k) zeroFct).length := by omega
      have hkv : k < Vs.length := by rw [hO.len]; exact hkl
      have HLen := Lib.hid hlen
      have HO := Lib.hid hO
      clear hlen hO
      go_wp2_with fail
      refine hcon.mono ?_
      rintro e w1 ⟨u, rfl, hu, hb1⟩
      have hz1 := hb1.size
      obtain ⟨U, rfl, hU⟩ := hu
      obtain ⟨P, cu, rfl, -, -, -⟩ := hU.1.at_
      have hO1 := HO.out.below hb1 (Nat.le_refl _)
      obtain ⟨d0, d1⟩ := hO1.cells HLen.out k hkl hkv
      have hfz := hO1.frozen HLen.out
      have HS := Lib.hid (FactSO.set (e := 66) (by decide) (hO1.mono (Nat.le_refl _) hz1) HLen.out k hlt l[k] _ (hU.mono hz (Nat.le_refl _)) (fun i hi _ q hq1 hq2 => by
        have h1 := (hU.1.lt q hq2).1
        have h2 := (HO.out.el i (by have := HO.out.len; omega) hi).2 q hq1
        omega))
      clear hO1
      go_wp2
      go_roundw
      case rel => exact ⟨k + 1, _, by omega, by go_num, by rw [← take_zero_fct l k hlt]; exact HS.out.mono (Nat.le_refl _) (by simp [World.setCell]), ((hW.trans (hb1.mono hz)).setCell (p := ⟨w.heap.size, k * 2, none⟩) (Nat.le_refl _) _).setCell (p := ⟨w.heap.size, k * 2 + 1, none⟩) (Nat.le_refl _) _⟩
      case measure => simp [intOf]; omega
    · obtain rfl : k = l.length := by omega
      have hO' : FactSO 66 w.heap.size wr.heap.size (.slice (some ⟨w.heap.size, 0, none⟩) l.length l.length) Vs l wr := by simpa using hO
      clear hO
      go_wp2
      go_ret
      exact ⟨_, rfl, ⟨Vs, hO'⟩, hW⟩

set_option maxHeartbeats 800000 in
theorem eqInstance_c (v u : Value) (x : Inst) (w : World) (h : Instance_at w w.heap.size v x) (h' : Instance_at w w.heap.size u x) :
    Calls Tryz.prog 25 #[v, u] w fun e w' => e = .returned (.bool true) ∧ Below w.heap.size w w' := by
  obtain ⟨P, c, Q, d, rfl⟩ := Instance_form h
  obtain ⟨P', c', Q', d', rfl⟩ := Instance_form h'
  obtain ⟨V1, V2, hv, hR, hF⟩ := h
  obtain ⟨U1, U2, hu, hR', hF'⟩ := h'
  simp only [Value.agg.injEq, Array.mk.injEq, List.cons.injEq, and_true] at hv hu
  obtain ⟨rfl, rfl⟩ := hv
  obtain ⟨rfl, rfl⟩ := hu
  have hE : Below w.heap.size w ((w.alloc (.cells #[.slice P x.rels.length c, .slice Q x.facts.length d] 27)).alloc (.cells #[.slice P' x.rels.length c', .slice Q' x.facts.length d'] 27)) := below_more (below_more (Below.refl _ _) _) _
  have hEz : w.heap.size + 2 = ((w.alloc (.cells #[.slice P x.rels.length c, .slice Q x.facts.length d] 27)).alloc (.cells #[.slice P' x.rels.length c', .slice Q' x.facts.length d'] 27)).heap.size := by simp
  have K1 := Lib.hid (show ((w.alloc (.cells #[.slice P x.rels.length c, .slice Q x.facts.length d] 27)).alloc (.cells #[.slice P' x.rels.length c', .slice Q' x.facts.length d'] 27)).cell? ⟨w.heap.size, 1, none⟩ = some (.slice Q x.facts.length d) by simp [go_sem])
  have K2 := Lib.hid (show ((w.alloc (.cells #[.slice P x.rels.length c, .slice Q x.facts.length d] 27)).alloc (.cells #[.slice P' x.rels.length c', .slice Q' x.facts.length d'] 27)).cell? ⟨w.heap.size + 1, 1, none⟩ = some (.slice Q' x.facts.length d') by simp [go_sem])
  have c1 := eqRelationS_c _ _ x.rels _ ((hR.below hE (Nat.le_refl _)).more hE.size) ((hR'.below hE (Nat.le_refl _)).more hE.size)
  have HF := Lib.hid hF
  have HF' := Lib.hid hF'
  clear hR hF hR' hF'
  go_enter Tryz.func25, Tryz.ntmps25
  go_wp2_with fail
  refine c1.mono ?_
  rintro e w1 ⟨rfl, hb1⟩
  clear c1
  have hB1 : Below w.heap.size w w1 := hE.trans (hb1.mono hE.size)
  have f1 := (hb1.cell (p := ⟨w.heap.size, 1, none⟩) (by show w.heap.size < _; omega)).trans K1.out
  have f2 := (hb1.cell (p := ⟨w.heap.size + 1, 1, none⟩) (by show w.heap.size + 1 < _; omega)).trans K2.out
  go_wp2_with fail
  refine (eqFactS_c _ _ x.facts w1 ((HF.out.below hB1 (Nat.le_refl _)).more hB1.size) ((HF'.out.below hB1 (Nat.le_refl _)).more hB1.size)).mono ?_
  rintro e w2 ⟨rfl, hb2⟩
  go_wp2
  go_ret
  exact ⟨rfl, hB1.trans (hb2.mono hB1.size)⟩

def Instance_mk (k : Nat) (x : Inst) : Inst := ⟨RelationS_mk k x.rels, FactS_mk (k + RelationS_cnt x.rels) x.facts⟩
set_option maxHeartbeats 800000 in
theorem markInstance_c (B C : Nat) (v : Value) (x : Inst) (k : Nat) (w : World) (h : Instance_own B C v x w) (hn : Instance_sz x ≤ 1048576) (hk0 : 1 ≤ k) (hk : k ≤ 1000000000) :
    Calls Tryz.prog 27 #[v, .int .i64 (k : Int)] w fun e w' => e = .returned (.int .i64 ((k + Instance_cnt x : Nat) : Int)) ∧ Instance_own B C v (Instance_mk k x) w' ∧ Chg (Mid B C) w w' := by
  obtain ⟨P, c, Q, d, rfl⟩ := Instance_form (h.at_ (Nat.le_refl _))
  obtain ⟨V1, V2, hv, hR, Vs, hF⟩ := h
  simp only [Value.agg.injEq, Array.mk.injEq, List.cons.injEq, and_true] at hv
  obtain ⟨rfl, rfl⟩ := hv
  have hn1 : RelationS_sz x.rels ≤ 1048576 := by unfold Instance_sz at hn; omega
  have hn2 : FactS_sz x.facts ≤ 1048576 := by unfold Instance_sz at hn; omega
  have hcn := RelationS_cnt_le x.rels
  have hE : Below w.heap.size w (w.alloc (.cells #[.slice P x.rels.length c, .slice Q x.facts.length d] 27)) := below_more (Below.refl _ _) _
  have hEz : w.heap.size + 1 = (w.alloc (.cells #[.slice P x.rels.length c, .slice Q x.facts.length d] 27)).heap.size := by simp
  have K1 := Lib.hid (show (w.alloc (.cells #[.slice P x.rels.length c, .slice Q x.facts.length d] 27)).cell? ⟨w.heap.size, 1, none⟩ = some (.slice Q x.facts.length d) by simp [go_sem])
  have hCw : ∀ q, Mid B C q → (Value.slice P x.rels.length c).ownBlock = some q → q < w.heap.size := fun q _ hq => (hR.1.lt q hq).2
  have hRE := Chg.row (Chg.of_below (S := fun _ => False) hE) hR.1 (fun _ _ h => h)
  have c1 := markRelationS_chg B _ x.rels k _ hRE (by unfold RelationS_sz at hn1; omega) hk0 hk
  have HR := Lib.hid hR
  have HF := Lib.hid hF
  clear hR hF hRE
  go_enter Tryz.func27, Tryz.ntmps27
  go_wp2_with fail
  refine c1.mono ?_
  rintro e w1 ⟨rfl, ho1, hc1⟩
  clear c1
  have hz1 := hc1.size
  have f1 := (hc1.cell (b := w.heap.size) (o := 1) (by omega) (fun hq => by have := hCw _ ⟨(HR.out.1.lt _ hq).1, HR.out.2 _ hq⟩ hq; omega)).trans K1.out
  have hcA : Chg (fun g => (Value.slice P x.rels.length c).ownBlock = some g) w w1 := (Chg.of_below hE).trans hc1
  -- the facts lie in blocks of other types
  have hF1 : FactSO 66 B C (.slice Q x.facts.length d) Vs x.facts w1 := by
    refine ⟨HF.out.len, hcA.row HF.out.row (fun g hg hq => ?_), HF.out.ins, fun i h1 h2 => ⟨(HF.out.el i h1 h2).1.chg hcA (fun g hg hq => ?_), (HF.out.el i h1 h2).2⟩, HF.out.dis⟩
    · rcases own_ne HR.out.1 HF.out.row (by decide) with h | h
      · rw [h] at hq; cases hq
      · rw [hg, hq] at h; exact h rfl
    · rcases own_ne HR.out.1 (HF.out.el i h1 h2).1 (by decide) with h | h
      · rw [h] at hq; cases hq
      · rw [hg, hq] at h; exact h rfl
  have c2 := markFactS_any B C _ Vs x.facts (k + RelationS_cnt x.rels) w1 hF1 hn2 (by unfold RelationS_sz at *; omega)
  rw [show ((k + RelationS_cnt x.rels : Nat) : Int) = (k : Int) + 3 * (x.rels.length : Nat) by unfold RelationS_cnt; omega] at c2
  have HO1 := Lib.hid ho1
  have HF1 := Lib.hid hF1
  clear ho1 hc1 hF1
  go_wp2_with fail
  refine c2.mono ?_
  rintro e w2 ⟨rfl, ho2, hc2⟩
  have hR2 := hc2.row HO1.out (fun g hg hq => by
    rcases hq with hq | ⟨V, hV, hq⟩
    · rcases own_ne HO1.out HF1.out.row (by decide) with h | h
      · rw [h] at hg; cases hg
      · rw [hg, hq] at h; exact h rfl
    · obtain ⟨i, hi, rfl⟩ := List.getElem_of_mem hV
      rcases own_ne HO1.out (HF1.out.el i (by have := HF1.out.len; omega) hi).1 (by decide) with h | h
      · rw [h] at hg; cases hg
      · rw [hg, hq] at h; exact h rfl)
  have H2 := Lib.hid hR2
  have H3 := Lib.hid ho2
  have H4 := Lib.hid hc2
  clear hR2 ho2 hc2 c2
  go_wp2
  go_ret
  refine ⟨ret_int (by unfold Instance_cnt; unfold RelationS_cnt; omega), ⟨_, _, rfl, ⟨?_, HR.out.2⟩, ⟨Vs, H3.out⟩⟩, ?_⟩
  · have := H2.out
    unfold Instance_mk RelationS_mk OwnRels
    rw [markRels_len] at this ⊢
    exact this
  · exact (hcA.mono fun g hg => ⟨(HR.out.1.lt g hg).1, HR.out.2 g hg⟩).trans (H4.out.mono HF1.out.foot)

set_option maxHeartbeats 800000 in
theorem szInstance_c (v : Value) (x : Inst) (left : Int) (w : World) (h : Instance_at w w.heap.size v x) (hw : Instance_wf x) (h0 : 0 ≤ left) (h1 : left ≤ 1048576) :
    Calls Tryz.prog 20 #[v, .int .i64 left] w fun e w' => e = .returned (.int .i64 (szLeft left (Instance_sz x : Nat))) ∧ Below w.heap.size w w' := by
  obtain ⟨P, c, Q, d, rfl⟩ := Instance_form h
  obtain ⟨V1, V2, hv, hR, hF⟩ := h
  simp only [Value.agg.injEq, Array.mk.injEq, List.cons.injEq, and_true] at hv
  obtain ⟨rfl, rfl⟩ := hv
  have hE : Below w.heap.size w (w.alloc (.cells #[.slice P x.rels.length c, .slice Q x.facts.length d] 49)) := (Below.refl _ _).alloc (Nat.le_refl _) _
  have hEz : w.heap.size + 1 ≤ (w.alloc (.cells #[.slice P x.rels.length c, .slice Q x.facts.length d] 49)).heap.size := by simp
  have K1 := Lib.hid (show (w.alloc (.cells #[.slice P x.rels.length c, .slice Q x.facts.length d] 49)).cell? ⟨w.heap.size, 1, none⟩ = some (.slice Q x.facts.length d) by simp [go_sem])
  have hsz : ((Instance_sz x : Nat) : Int) = ((RelationS_sz x.rels : Nat) : Int) + ((FactS_sz x.facts : Nat) : Int) := by unfold Instance_sz; omega
  rw [hsz]
  clear hsz
  have c1 := szRelationS_c _ x.rels left _ ((hR.below hE (Nat.le_refl _)).more hE.size) hw.1 h0 h1
  have HF := Lib.hid hF
  clear hR hF
  by_cases hr : ((RelationS_sz x.rels : Nat) : Int) ≤ left
  · have e1 := szLeft_yes hr
    have e2 := Lib.hid (szLeft_add (left := left) (a := (RelationS_sz x.rels : Nat)) (b := (FactS_sz x.facts : Nat)))
    rw [e1] at c1
    go_enter Tryz.func20, Tryz.ntmps20
    go_wp2_with fail
    refine c1.mono ?_
    rintro e w1 ⟨rfl, hb1⟩
    clear c1
    have hz1 := hb1.size
    have f1 := (hb1.cell (p := ⟨w.heap.size, 1, none⟩) hEz).trans K1.out
    have hB1 : Below w.heap.size w w1 := hE.trans (hb1.mono hE.size)
    have c2 := szFactS_c _ x.facts (left - (RelationS_sz x.rels : Nat)) w1 ((HF.out.below hB1 (Nat.le_refl _)).more hB1.size) hw.2 (by omega) (by omega)
    by_cases hf : ((FactS_sz x.facts : Nat) : Int) ≤ left - (RelationS_sz x.rels : Nat)
    · have e3 := szLeft_yes hf
      rw [e3] at c2 e2
      clear e1 e3
      go_wp2_with fail
      refine c2.mono ?_
      rintro e w2 ⟨rfl, hb2⟩
      go_wp2
      go_ret
      exact ⟨ret_int e2.out, hB1.trans (hb2.mono hB1.size)⟩
    · have e3 := szLeft_no hf
      rw [e3] at c2 e2
      clear e1 e3
      go_wp2_with fail
      refine c2.mono ?_
      rintro e w2 ⟨rfl, hb2⟩
      go_wp2
      go_ret
      exact ⟨ret_int e2.out, hB1.trans (hb2.mono hB1.size)⟩
  · have e1 := szLeft_no hr
    have e2 := Lib.hid (szLeft_no (left := left) (n := ((RelationS_sz x.rels : Nat) : Int) + ((FactS_sz x.facts : Nat) : Int)) (by omega))
    rw [e1] at c1
    clear e1
    go_enter Tryz.func20, Tryz.ntmps20
    go_wp2_with fail
    refine c1.mono ?_
    rintro e w1 ⟨rfl, hb1⟩
    go_wp2
    go_ret
    exact ⟨ret_int e2.out.symm, hE.trans (hb1.mono hE.size)⟩

set_option maxHeartbeats 1600000 in
theorem toInstance_c (v : Value) (x : Inst) (w : World) (h : Instance_at w w.heap.size v x) (hn : Instance_sz x ≤ 1048576) :
    Calls Tryz.prog 22 #[v] w fun e w' => ∃ u, e = .returned u ∧ Instance_own w.heap.size w'.heap.size u x w' ∧ Below w.heap.size w w' := by
  obtain ⟨P, c, Q, d, rfl⟩ := Instance_form h
  obtain ⟨V1, V2, hv, hR, hF⟩ := h
  simp only [Value.agg.injEq, Array.mk.injEq, List.cons.injEq, and_true] at hv
  obtain ⟨rfl, rfl⟩ := hv
  have hn1 : RelationS_sz x.rels ≤ 1048576 := by unfold Instance_sz at hn; omega
  have hn2 : FactS_sz x.facts ≤ 1048576 := by unfold Instance_sz at hn; omega
  have hE : Below w.heap.size w (((w.alloc (.cells #[.slice P x.rels.length c, .slice Q x.facts.length d] 49)).alloc (.cells #[.slice none 0 0, .slice none 0 0] 27)).alloc (.cells #[.slice none 0 0, .slice none 0 0] 27)) := below_more (below_more (below_more (Below.refl _ _) _) _) _
  have hEz : w.heap.size + 3 = (((w.alloc (.cells #[.slice P x.rels.length c, .slice Q x.facts.length d] 49)).alloc (.cells #[.slice none 0 0, .slice none 0 0] 27)).alloc (.cells #[.slice none 0 0, .slice none 0 0] 27)).heap.size := by simp
  have K0 := Lib.hid (show (((w.alloc (.cells #[.slice P x.rels.length c, .slice Q x.facts.length d] 49)).alloc (.cells #[.slice none 0 0, .slice none 0 0] 27)).alloc (.cells #[.slice none 0 0, .slice none 0 0] 27)).cell? ⟨w.heap.size, 1, none⟩ = some (.slice Q x.facts.length d) by simp [go_sem])
  have K1 := fun o (ho : o < 2) => Lib.hid (show (((w.alloc (.cells #[.slice P x.rels.length c, .slice Q x.facts.length d] 49)).alloc (.cells #[.slice none 0 0, .slice none 0 0] 27)).alloc (.cells #[.slice none 0 0, .slice none 0 0] 27)).cell? ⟨w.heap.size + 1, o, none⟩ = some (.slice none 0 0) by rcases (show o = 0 ∨ o = 1 by omega) with rfl | rfl <;> simp [go_sem])
  have K2 := fun o (ho : o < 2) => Lib.hid (show (((w.alloc (.cells #[.slice P x.rels.length c, .slice Q x.facts.length d] 49)).alloc (.cells #[.slice none 0 0, .slice none 0 0] 27)).alloc (.cells #[.slice none 0 0, .slice none 0 0] 27)).cell? ⟨w.heap.size + 1 + 1, o, none⟩ = some (.slice none 0 0) by rcases (show o = 0 ∨ o = 1 by omega) with rfl | rfl <;> simp [go_sem])
  have Z1 := fun o => Lib.hid (show (((w.alloc (.cells #[.slice P x.rels.length c, .slice Q x.facts.length d] 49)).alloc (.cells #[.slice none 0 0, .slice none 0 0] 27)).alloc (.cells #[.slice none 0 0, .slice none 0 0] 27)).frozen? ⟨w.heap.size + 1, o, none⟩ = false by simp [go_sem])
  have Z2 := fun o => Lib.hid (show (((w.alloc (.cells #[.slice P x.rels.length c, .slice Q x.facts.length d] 49)).alloc (.cells #[.slice none 0 0, .slice none 0 0] 27)).alloc (.cells #[.slice none 0 0, .slice none 0 0] 27)).frozen? ⟨w.heap.size + 1 + 1, o, none⟩ = false by simp [go_sem])
  have c1 := toRelationS_c _ x.rels _ ((hR.below hE (Nat.le_refl _)).more hE.size) hn1
  have HF := Lib.hid hF
  clear hR hF
  go_enter Tryz.func22, Tryz.ntmps22
  go_wp2_with fail
  refine c1.mono ?_
  rintro e w1 ⟨u1, rfl, ho1, hb1⟩
  clear c1
  have hz1 := hb1.size
  obtain ⟨P1, p1, rfl, -, -⟩ := (ho1.at_ (Nat.le_refl _)).form
  have hB1 : Below w.heap.size w w1 := hE.trans (hb1.mono hE.size)
  have f0 := (hb1.cell (p := ⟨w.heap.size, 1, none⟩) (by show w.heap.size < _; omega)).trans K0.out
  have f2 := fun o ho => (hb1.cell (p := ⟨w.heap.size + 1 + 1, o, none⟩) (by show w.heap.size + 1 + 1 < _; omega)).trans (K2 o ho).out
  have f3 := f2 0 (by omega)
  have f4 := f2 1 (by omega)
  have z2 := fun o => (hb1.frozen (p := ⟨w.heap.size + 1 + 1, o, none⟩) (by show w.heap.size + 1 + 1 < _; omega)).trans (Z2 o).out
  have HO1 := Lib.hid ho1
  clear f2 ho1
  go_wp2_with fail
  have hw2 : Below w.heap.size w1 (w1.setCell ⟨w.heap.size + 1 + 1, 0, none⟩ (.slice P1 x.rels.length p1)) := (Below.refl _ _).setCell (p := ⟨w.heap.size + 1 + 1, 0, none⟩) (by show w.heap.size ≤ w.heap.size + 1 + 1; omega) _
  have hB2 := hB1.trans hw2
  refine (toFactS_c _ x.facts _ ((HF.out.below hB2 (Nat.le_refl _)).more hB2.size) hn2).mono ?_
  rintro e w3 ⟨u2, rfl, ho2, hb3⟩
  obtain ⟨P2, p2, rfl, -, -⟩ := (ho2.at_ (Nat.le_refl _)).form
  have hsz : (w1.setCell ⟨w.heap.size + 1 + 1, 0, none⟩ (.slice P1 x.rels.length p1)).heap.size = w1.heap.size := by simp [World.setCell]
  have hz3 := hb3.size
  have hB3 : Below w.heap.size w w3 := hB2.trans (hb3.mono (by omega))
  have g0 : w3.cell? ⟨w.heap.size + 1 + 1, 0, none⟩ = some (.slice P1 x.rels.length p1) := (hb3.cell (p := ⟨w.heap.size + 1 + 1, 0, none⟩) (by show w.heap.size + 1 + 1 < _; omega)).trans (by simp [go_sem, f3])
  have g1 : w3.cell? ⟨w.heap.size + 1 + 1, 1, none⟩ = some (.slice none 0 0) := (hb3.cell (p := ⟨w.heap.size + 1 + 1, 1, none⟩) (by show w.heap.size + 1 + 1 < _; omega)).trans (by simp [go_sem, f4])
  have z3 := fun o => (hb3.frozen (p := ⟨w.heap.size + 1 + 1, o, none⟩) (by show w.heap.size + 1 + 1 < _; omega)).trans (by simp [go_sem, z2] : _ = false)
  have m0 : w3.cell? ⟨w.heap.size + 1, 0, none⟩ = some (.slice none 0 0) := (hb3.cell (p := ⟨w.heap.size + 1, 0, none⟩) (by show w.heap.size + 1 < _; omega)).trans ((by simp [go_sem] : _ = w1.cell? ⟨w.heap.size + 1, 0, none⟩).trans ((hb1.cell (p := ⟨w.heap.size + 1, 0, none⟩) (by show w.heap.size + 1 < _; omega)).trans (K1 0 (by omega)).out))
  have m1 : w3.cell? ⟨w.heap.size + 1, 1, none⟩ = some (.slice none 0 0) := (hb3.cell (p := ⟨w.heap.size + 1, 1, none⟩) (by show w.heap.size + 1 < _; omega)).trans ((by simp [go_sem] : _ = w1.cell? ⟨w.heap.size + 1, 1, none⟩).trans ((hb1.cell (p := ⟨w.heap.size + 1, 1, none⟩) (by show w.heap.size + 1 < _; omega)).trans (K1 1 (by omega)).out))
  have mz := fun o => (hb3.frozen (p := ⟨w.heap.size + 1, o, none⟩) (by show w.heap.size + 1 < _; omega)).trans ((by simp [go_sem] : _ = w1.frozen? ⟨w.heap.size + 1, o, none⟩).trans ((hb1.frozen (p := ⟨w.heap.size + 1, o, none⟩) (by show w.heap.size + 1 < _; omega)).trans (Z1 o).out))
  have HO2 := Lib.hid ho2
  have HB1 := Lib.hid hb1
  have HB3 := Lib.hid hb3
  clear f0 f3 f4 z2 ho2 hb3 hb1
  have hcA : Chg (Mid w.heap.size (w.heap.size + 3)) w1 (w1.setCell ⟨w.heap.size + 1 + 1, 0, none⟩ (.slice P1 x.rels.length p1)) := (Chg.refl _ _).setCell (p := ⟨w.heap.size + 1 + 1, 0, none⟩) ⟨by show w.heap.size ≤ w.heap.size + 1 + 1; omega, by show w.heap.size + 1 + 1 < _; omega⟩ _
  have hcB : Chg (Mid w.heap.size (w.heap.size + 3)) w3 (((w3.setCell ⟨w.heap.size + 1 + 1, 1, none⟩ (.slice P2 x.facts.length p2)).setCell ⟨w.heap.size + 1, 0, none⟩ (.slice P1 x.rels.length p1)).setCell ⟨w.heap.size + 1, 1, none⟩ (.slice P2 x.facts.length p2)) :=
    (((Chg.refl _ _).setCell (p := ⟨w.heap.size + 1 + 1, 1, none⟩) ⟨by show w.heap.size ≤ w.heap.size + 1 + 1; omega, by show w.heap.size + 1 + 1 < _; omega⟩ _).setCell (p := ⟨w.heap.size + 1, 0, none⟩) ⟨by show w.heap.size ≤ w.heap.size + 1; omega, by show w.heap.size + 1 < _; omega⟩ _).setCell (p := ⟨w.heap.size + 1, 1, none⟩) ⟨by show w.heap.size ≤ w.heap.size + 1; omega, by show w.heap.size + 1 < _; omega⟩ _
  have HA := Lib.hid hcA
  have HB := Lib.hid hcB
  have hE1 : w.heap.size + 1 ≤ (((w.alloc (.cells #[.slice P x.rels.length c, .slice Q x.facts.length d] 49)).alloc (.cells #[.slice none 0 0, .slice none 0 0] 27)).alloc (.cells #[.slice none 0 0, .slice none 0 0] 27)).heap.size := by omega
  clear hcA hcB
  go_wp2
  refine bodyPost_ret (v := .agg #[.slice P1 x.rels.length p1, .slice P2 x.facts.length p2]) (by simp [results, Tryz.results22, go_sem, m0, m1]) rfl ⟨_, rfl, ⟨_, _, rfl, ?_, ?_⟩, ?_⟩
  · have h1 := ((HO1.out.chg HA.out (.inr (by omega))).below HB3.out (by omega)).chg HB.out (.inr (by omega))
    exact h1.mono (by omega) (by have := HB.out.size; omega)
  · have h1 := HO2.out.chg HB.out (.inr (by omega))
    exact h1.mono (by omega) HB.out.size
  · exact hB3.trans (HB.out.mid_below (Nat.le_refl _) hB3.size)

end Go.Proofs.YtobdijcnfmgidaaGreat
