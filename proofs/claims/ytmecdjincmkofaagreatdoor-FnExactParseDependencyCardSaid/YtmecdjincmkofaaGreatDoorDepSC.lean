/-
  Walks and plain lemmas for the laws of this seat: what single Go functions return, for every argument.
-/
import Derived.Maps.AppendAt
import Derived.Deep.AppendLies
import Derived.Test.YtmecdjincmkofaaGreatDoorBase
import Derived.Test.YtmecdjincmkofaaGreatDoorRel
import Derived.Test.YtmecdjincmkofaaGreatDoorDepC
import Derived.Test.YtmecdjincmkofaaGreatDoorRelsC
import Derived.Test.YtmecdjincmkofaaGreatDoorTyDepS
namespace Go.Proofs.YtmecdjincmkofaaGreatDoor
open Go.RowKit

set_option maxHeartbeats 1600000 in
theorem eqDependencyS_c (v u : Value) (l : List Dep) (w : World) (hl : DependencyS_at w w.heap.size v l) (hm : DependencyS_at w w.heap.size u l) :
    Calls Tryz.prog 56 #[v, u] w fun e w' => e = .returned (.bool true) ∧ Below w.heap.size w w' := by
  have HL := Lib.hid hl
  have HM := Lib.hid hm
  obtain ⟨A, c, rfl, hlc, hcm⟩ := hl.form
  obtain ⟨A', c', rfl, hlc', hcm'⟩ := hm.form
  clear hl hm
  unfold maxLen at hcm hcm'
  go_enter Tryz.func56, Tryz.ntmps56
  go_wp2
  go_loopw [5] (fun i wr => ∃ k : Nat, k ≤ l.length ∧ i = .int .i64 k ∧ Below w.heap.size w wr) (fun i _ => l.length - (intOf i).toNat)
  case atStart => exact ⟨0, by omega, rfl, Below.refl _ _⟩
  case round =>
    obtain ⟨k, hk, rfl, hW⟩ := hrel
    have hz := hW.size
    by_cases hlt : k < l.length
    · obtain ⟨b, off, V, U, rfl, hb, c0, c1, c2, c3, c4, hV, hU⟩ := DependencyS_at.elem HL.out k hlt
      obtain ⟨b', off', V', U', rfl, hb', d0, d1, d2, d3, d4, hV', hU'⟩ := DependencyS_at.elem HM.out k hlt
      have C0 := Aft.cell hb c0
      have C1 := Aft.cell hb c1
      have C2 := Aft.cell hb c2
      have C3 := Aft.cell hb c3
      have C4 := Aft.cell hb c4
      have D0 := Aft.cell hb' d0
      have D1 := Aft.cell hb' d1
      have D2 := Aft.cell hb' d2
      have D3 := Aft.cell hb' d3
      have D4 := Aft.cell hb' d4
      have hcon := fun (u : Aft w.heap.size w) => eqDependency_c (.agg #[V, U, .bool l[k].egd, .int .i64 l[k].left, .int .i64 l[k].right]) (.agg #[V', U', .bool l[k].egd, .int .i64 l[k].left, .int .i64 l[k].right]) l[k] u.now ⟨V, U, rfl, (hV.below u.is (Nat.le_refl _)).more u.is.size, (hU.below u.is (Nat.le_refl _)).more u.is.size⟩ ⟨V', U', rfl, (hV'.below u.is (Nat.le_refl _)).more u.is.size, (hU'.below u.is (Nat.le_refl _)).more u.is.size⟩
      clear c0 c1 c2 c3 c4 d0 d1 d2 d3 d4
      go_wp2
      refine wp_region_aft hW (by kernel_rfl) (by kernel_rfl) ?_
      repeat (go_big_quiet_step (((go_at_call 48; exact calls_aft (Nat.le_refl _) (hcon _)))))
      refine wpQuiet_nil ?_
      refine aft_end ?_
      intro w1 hh
      go_wp2
      go_roundw
      case rel => exact ⟨k + 1, by omega, by go_num, hh⟩
      case measure => simp [intOf]; omega
    · obtain rfl : k = l.length := by omega
      go_wp2
      go_ret
      exact ⟨rfl, hW⟩

set_option maxHeartbeats 3200000 in
set_option maxRecDepth 100000 in
theorem heldDependencyS_c (v : Value) (l : List Dep) (k : Nat) (w : World) (h : DependencyS_at w w.heap.size v (DependencyS_mk k l)) (hn : DependencyS_sz l ≤ 1048576) (_ : 1 ≤ k) (hk : k ≤ 1000000000) :
    Calls Tryz.prog 58 #[v, .int .i64 (k : Int)] w fun e w' => e = .returned (.int .i64 ((k + DependencyS_cnt l : Nat) : Int)) ∧ Below w.heap.size w w' := by
  have HL := Lib.hid h
  have hml := DependencyS_mk_len k l
  obtain ⟨A, c, rfl, hc1, hc2⟩ := h.form
  clear h
  rw [hml] at hc1
  unfold maxLen at hc2
  have HLn : Hid (DependencyS_at w w.heap.size (.slice A l.length c) (DependencyS_mk k l)) := Lib.hid (by have := HL.out; rwa [hml] at this)
  have hn1 : l.length + depsLen l ≤ 1048576 := hn
  have hct := depsCnt_sz l
  rw [hml]
  have HML := Lib.hid hml
  clear HL hml hn
  go_enter Tryz.func58, Tryz.ntmps58
  go_wp2
  go_loopw [1, 5] (fun x j wr => ∃ i : Nat, i ≤ l.length ∧ j = .int .i64 (i : Int) ∧ x = .int .i64 ((k + depsCnt (l.take i) : Nat) : Int) ∧ Below w.heap.size w wr) (fun _ j _ => l.length - (intOf j).toNat)
  case atStart => exact ⟨0, by omega, rfl, by simp [depsCnt], Below.refl _ _⟩
  case round =>
    obtain ⟨i, hi, rfl, rfl, hW⟩ := hrel
    have hz := hW.size
    by_cases hlt : i < l.length
    · have him : i < (DependencyS_mk k l).length := by rw [HML.out]; exact hlt
      have HL2 : DependencyS_at w w.heap.size (.slice A (DependencyS_mk k l).length c) (DependencyS_mk k l) := by rw [HML.out]; exact HLn.out
      obtain ⟨b, off, V, U, rfl, hb, c0, c1, c2, c3, c4, hV, hU⟩ := DependencyS_at.elem HL2 i him
      have hv1 := depsCnt_take l i hlt
      have hv2 := depsCnt_le l (i + 1)
      rw [DependencyS_mk_at] at c2 c3 c4 hV hU
      have hsz := depsLen_take l i hlt
      have hsz2 := depsLen_le l (i + 1)
      have hs1 : AtomS_sz l[i].body ≤ 1048576 := by unfold Dependency_sz at hsz; omega
      have hs2 : AtomS_sz l[i].head ≤ 1048576 := by unfold Dependency_sz at hsz; omega
      obtain ⟨K, hK⟩ : ∃ K, K = k + depsCnt (l.take i) := ⟨_, rfl⟩
      have hcb := AtomS_cnt_le l[i].body
      have hch := AtomS_cnt_le l[i].head
      have hKb : K ≤ 2000000000 := by omega
      obtain ⟨K1, hK1⟩ : ∃ K1, K1 = K + AtomS_cnt l[i].body := ⟨_, rfl⟩
      obtain ⟨K2, hK2⟩ : ∃ K2, K2 = K1 + AtomS_cnt l[i].head := ⟨_, rfl⟩
      have hK2b : K2 ≤ 3000000000 := by omega
      have HKs := Lib.hid (show K2 + 3 = k + depsCnt (l.take (i + 1)) by rw [hv1]; unfold depCnt; omega)
      have hm : markDepAt k l i = (⟨AtomS_mk K l[i].body, AtomS_mk K1 l[i].head, (((K2 : Int) % 3) == 0), ((K2 + 1 : Nat) : Int), ((K2 + 2 : Nat) : Int)⟩ : Dep) := by
        unfold markDepAt markDep
        rw [show l.getD i default = l[i] by simp [List.getD, List.getElem?_eq_getElem hlt], ← hK, ← hK1, ← hK2]
      rw [hm] at c2 c3 c4 hV hU
      simp only at c2 c3 c4 hV hU
      have e1 : ((K2 + 1 : Nat) : Int) = (K2 : Int) + 1 := by omega
      have e2 : ((K2 + 2 : Nat) : Int) = (K2 : Int) + 1 + 1 := by omega
      rw [e1] at c3
      rw [e2] at c4
      clear e1 e2 hm
      have g0 := (hW.cell (p := ⟨b, off + i * 5, none⟩) hb).trans c0
      have C1 := Lib.hid c1
      have C2 := Lib.hid c2
      have C3 := Lib.hid c3
      have C4 := Lib.hid c4
      have hm1 := heldAtomS_any V l[i].body K wr ((hV.below hW (Nat.le_refl _)).more hz) hs1 (by omega)
      rw [← hK1] at hm1
      have HU := Lib.hid hU
      have HK2 := Lib.hid hK2
      rw [← hK]
      clear hV hU hsz hsz2 hcb hch hK hK1 hK2 hv1 hv2 hct c0 c1 c2 c3 c4 HL2
      go_wp2_with fail
      refine hm1.mono ?_
      rintro e w1 ⟨rfl, hb1⟩
      have hW1 := hW.trans (hb1.mono hz)
      have g1 := (hW1.cell (p := ⟨b, off + i * 5 + 1, none⟩) hb).trans C1.out
      have hm2 := heldAtomS_any U l[i].head K1 w1 ((HU.out.below hW1 (Nat.le_refl _)).more hW1.size) hs2 (by have := HK2.out; omega)
      rw [← HK2.out] at hm2
      clear g0 hm1
      go_wp2_with fail
      refine hm2.mono ?_
      rintro e w2 ⟨rfl, hb2⟩
      have hW2 := hW1.trans (hb2.mono hW1.size)
      have g2 := (hW2.cell (p := ⟨b, off + i * 5 + 2, none⟩) hb).trans C2.out
      have g3 := (hW2.cell (p := ⟨b, off + i * 5 + 3, none⟩) hb).trans C3.out
      have g4 := (hW2.cell (p := ⟨b, off + i * 5 + 4, none⟩) hb).trans C4.out
      clear g1 hm2
      go_wp2
      go_roundw
      case rel => exact ⟨i + 1, by omega, by go_num, by rw [← HKs.out]; go_num, hW2⟩
      case measure => simp [intOf]; omega
    · obtain rfl : i = l.length := by omega
      have he := Lib.hid (show k + depsCnt (l.take l.length) = k + DependencyS_cnt l by rw [List.take_length]; rfl)
      go_wp2
      go_ret
      exact ⟨ret_int (by rw [he.out]), hW⟩

/-- the first i dependencies marked, the others as they were -/
def dmkTo (k : Nat) (l : List Dep) (i : Nat) : List Dep := (DependencyS_mk k l).take i ++ l.drop i
theorem dmkTo_len (k : Nat) (l : List Dep) (i : Nat) (h : i ≤ l.length) : (dmkTo k l i).length = l.length := by unfold dmkTo; rw [List.length_append, List.length_take, DependencyS_mk_len, List.length_drop]; omega
theorem dmkTo_at (k : Nat) (l : List Dep) (i : Nat) (h : i < l.length) (h' : i < (dmkTo k l i).length) : (dmkTo k l i)[i] = l[i] := by
  have e : ((DependencyS_mk k l).take i).length = i := by rw [List.length_take, DependencyS_mk_len]; omega
  simp only [dmkTo]
  rw [List.getElem_append_right (by omega)]
  simp [e]
theorem dmkTo_succ (k : Nat) (l : List Dep) (i : Nat) (h : i < l.length) : (dmkTo k l i).set i (markDepAt k l i) = dmkTo k l (i + 1) := by
  have e : ((DependencyS_mk k l).take i).length = i := by rw [List.length_take, DependencyS_mk_len]; omega
  unfold dmkTo
  rw [List.set_append_right _ _ (by omega), e, Nat.sub_self, List.drop_eq_getElem_cons h, List.set_cons_zero, List.take_succ_eq_append_getElem (by rw [DependencyS_mk_len]; exact h), DependencyS_mk_at, List.append_assoc]
  rfl
set_option maxHeartbeats 3200000 in
set_option maxRecDepth 100000 in
theorem markDependencyS_any (B C : Nat) (v : Value) (Xs : List DepX) (l : List Dep) (k : Nat) (w : World) (hS : DependencySO 37 B C v Xs l w) (hn : DependencyS_sz l ≤ 1048576) (hk : k ≤ 10000000000) :
    Calls Tryz.prog 57 #[v, .int .i64 (k : Int)] w fun e w' => e = .returned (.int .i64 ((k + DependencyS_cnt l : Nat) : Int)) ∧ DependencySO 37 B C v Xs (DependencyS_mk k l) w' ∧ Chg (dFootS v Xs) w w' := by
  obtain ⟨A, c, rfl, hc1, hc2⟩ := (hS.at_ (Nat.le_refl _)).form
  unfold maxLen at hc2
  have hn1 : l.length + depsLen l ≤ 1048576 := hn
  have hct := depsCnt_sz l
  go_enter Tryz.func57, Tryz.ntmps57
  go_wp2
  go_loopw [1, 5] (fun x j wr => ∃ i : Nat, i ≤ l.length ∧ j = .int .i64 (i : Int) ∧ x = .int .i64 ((k + depsCnt (l.take i) : Nat) : Int) ∧ DependencySO 37 B C (.slice A l.length c) Xs (dmkTo k l i) wr ∧ Chg (dFootS (.slice A l.length c) Xs) w wr) (fun _ j _ => l.length - (intOf j).toNat)
  case atStart => exact ⟨0, by omega, rfl, by simp [depsCnt], by simpa [dmkTo] using hS, Chg.refl _ _⟩
  case round =>
    clear hS
    obtain ⟨i, hi, rfl, rfl, hO, hW⟩ := hrel
    have hml := dmkTo_len k l i hi
    by_cases hlt : i < l.length
    · have hil : i < (dmkTo k l i).length := by omega
      have hiv : i < Xs.length := by rw [hO.len]; exact hil
      have hv1 := depsCnt_take l i hlt
      have hv2 := depsCnt_le l (i + 1)
      have hrow := hO.row
      rw [dZip_len (by rw [List.length_map, hO.len]), hml] at hrow
      obtain ⟨g, cap, hv, hg0, hg1⟩ := World.ownsRow.form hrow (by omega)
      simp only [Value.slice.injEq] at hv
      obtain ⟨rfl, -, rfl⟩ := hv
      clear hrow
      have HML := Lib.hid hml
      obtain ⟨d0, d1, -⟩ := hO.cells hml i hil hiv
      have hel := hO.el i hil hiv
      rw [dmkTo_at k l i hlt hil] at hel
      have hgX := dFoot_ne (by decide) (by decide) hO.row hel g rfl
      have hsz := depsLen_take l i hlt
      have hsz2 := depsLen_le l (i + 1)
      have hs1 : AtomS_sz l[i].body ≤ 1048576 := by unfold Dependency_sz at hsz; omega
      have hs2 : AtomS_sz l[i].head ≤ 1048576 := by unfold Dependency_sz at hsz; omega
      obtain ⟨K, hK⟩ : ∃ K, K = k + depsCnt (l.take i) := ⟨_, rfl⟩
      have hcb := AtomS_cnt_le l[i].body
      have hch := AtomS_cnt_le l[i].head
      have hKb : K ≤ 20000000000 := by omega
      obtain ⟨K1, hK1⟩ : ∃ K1, K1 = K + AtomS_cnt l[i].body := ⟨_, rfl⟩
      obtain ⟨K2, hK2⟩ : ∃ K2, K2 = K1 + AtomS_cnt l[i].head := ⟨_, rfl⟩
      have hK2b : K2 ≤ 30000000000 := by omega
      have HKs := Lib.hid (show K2 + 3 = k + depsCnt (l.take (i + 1)) by rw [hv1]; unfold depCnt; omega)
      have HKm := Lib.hid (show (⟨AtomS_mk K l[i].body, AtomS_mk K1 l[i].head, (((K2 : Int) % 3) == 0), ((K2 + 1 : Nat) : Int), ((K2 + 2 : Nat) : Int)⟩ : Dep) = markDepAt k l i by
        unfold markDepAt markDep
        rw [show l.getD i default = l[i] by simp [List.getD, List.getElem?_eq_getElem hlt], ← hK, ← hK1, ← hK2])
      have hm1 := markAtomS_any B C Xs[i].1.1 Xs[i].1.2 l[i].body K wr hel.1 hs1 (by omega)
      rw [← hK1] at hm1
      have HEL := Lib.hid hel
      have HO := Lib.hid hO
      have HGX := Lib.hid hgX
      have HK1 := Lib.hid hK1
      have HK2 := Lib.hid hK2
      rw [← hK]
      clear hel hO hgX hsz hsz2 hcb hch hK hK1 hK2 hv1 hv2 hct
      go_wp2_with fail
      refine hm1.mono ?_
      rintro e w1 ⟨rfl, hB1, hC1⟩
      have hm2 := markAtomS_any B C Xs[i].2.1 Xs[i].2.2 l[i].head K1 w1 (HEL.out.2.1.chgS hC1 (fun q hq hq2 => HEL.out.2.2 q hq2 hq)) hs2 (by have := HK2.out; omega)
      rw [← HK2.out] at hm2
      have d1' := (hC1.cell (b := g) (o := i * 5 + 1) hg1 (fun hq => HGX.out (.inl hq))).trans d1
      clear hm1 d0 d1
      have HB1 := Lib.hid hB1
      have HC1 := Lib.hid hC1
      have hg1' : g < w1.heap.size := Nat.lt_of_lt_of_le hg1 hC1.size
      clear hB1 hC1
      go_wp2_with fail
      refine hm2.mono ?_
      rintro e w2 ⟨rfl, hB2, hC2⟩
      have hCC : Chg (dFoot Xs[i]) wr w2 := (HC1.out.mono fun q hq => .inl hq).trans (hC2.mono fun q hq => .inr hq)
      have hX : DepOwn B C Xs[i] ⟨AtomS_mk K l[i].body, AtomS_mk K1 l[i].head, l[i].egd, l[i].left, l[i].right⟩ w2 := ⟨HB1.out.chgS hC2 (fun q hq => HEL.out.2.2 q hq), hB2, HEL.out.2.2⟩
      have hdm := dmkTo_at k l i hlt (by rw [HML.out]; exact hlt)
      have H2 := Lib.hid (DependencySO.setEl (e := 37) (by decide) (by decide) HO.out i (by rw [HML.out]; exact hlt) hiv ⟨AtomS_mk K l[i].body, AtomS_mk K1 l[i].head, l[i].egd, l[i].left, l[i].right⟩ (by rw [hdm]) (by rw [hdm]) (by rw [hdm]) hX hCC)
      have hsl : ((dmkTo k l i).set i ⟨AtomS_mk K l[i].body, AtomS_mk K1 l[i].head, l[i].egd, l[i].left, l[i].right⟩).length = l.length := by rw [List.length_set, HML.out]
      obtain ⟨-, -, d2, d3, d4⟩ := H2.out.cells hsl i (by rw [hsl]; exact hlt) hiv
      have hfz := H2.out.frozen hsl
      have HF := Lib.hid (DependencySO.setFlags (e := 37) (by decide) (by decide) H2.out hsl i (by rw [hsl]; exact hlt) hiv (((K2 : Int) % 3) == 0) ((K2 + 1 : Nat) : Int) ((K2 + 2 : Nat) : Int))
      have hcF : Chg (dFootS (.slice (some ⟨g, 0, none⟩) l.length c) Xs) w w2 := hW.trans (hCC.mono fun q hq => .inr ⟨Xs[i], List.getElem_mem hiv, hq⟩)
      have HCF := Lib.hid ((((hcF.setCell (p := ⟨g, i * 5 + 2, none⟩) (.inl rfl) (.bool (((K2 : Int) % 3) == 0))).setCell (p := ⟨g, i * 5 + 3, none⟩) (.inl rfl) (.int .i64 ((K2 + 1 : Nat) : Int))).setCell (p := ⟨g, i * 5 + 4, none⟩) (.inl rfl) (.int .i64 ((K2 + 2 : Nat) : Int))))
      rw [List.getElem_set_self] at d2 d3 d4
      clear hm2 hCC hX hdm hcF HB1 HC1 hC2 hB2 d1'
      go_wp2
      go_roundw
      case rel =>
        have e1 : ((K2 + 1 : Nat) : Int) = (K2 : Int) + 1 := by omega
        have e2 : ((K2 + 2 : Nat) : Int) = (K2 : Int) + 1 + 1 := by omega
        refine ⟨i + 1, by omega, by go_num, by rw [← HKs.out]; go_num, ?_, ?_⟩
        · have := HF.out
          rw [List.getElem_set_self, List.set_set] at this
          simp only at this
          rw [HKm.out, dmkTo_succ k l i hlt, e1, e2] at this
          exact this
        · have := HCF.out
          rw [e1, e2] at this
          exact this
      case measure => simp [intOf]; omega
    · obtain rfl : i = l.length := by omega
      have hO' : DependencySO 37 B C (.slice A l.length c) Xs (DependencyS_mk k l) wr := by
        have := hO
        unfold dmkTo at this
        rwa [List.drop_length, List.append_nil, List.take_of_length_le (by rw [DependencyS_mk_len]; exact Nat.le_refl _)] at this
      clear hO
      have he := Lib.hid (show k + depsCnt (l.take l.length) = k + DependencyS_cnt l by rw [List.take_length]; rfl)
      go_wp2
      go_ret
      exact ⟨ret_int (by rw [he.out]), hO', hW⟩
theorem markDependencyS_c (B C : Nat) (v : Value) (l : List Dep) (k : Nat) (w : World) (h : DependencyS_own B C v l w) (hn : DependencyS_sz l ≤ 1048576) (_ : 1 ≤ k) (hk : k ≤ 1000000000) :
    Calls Tryz.prog 57 #[v, .int .i64 (k : Int)] w fun e w' => e = .returned (.int .i64 ((k + DependencyS_cnt l : Nat) : Int)) ∧ DependencyS_own B C v (DependencyS_mk k l) w' ∧ Chg (Mid B C) w w' := by
  obtain ⟨Xs, hS⟩ := h
  exact (markDependencyS_any B C v Xs l k w hS hn (by omega)).mono fun _ _ ⟨he, ho, hc⟩ => ⟨he, ⟨Xs, ho⟩, hc.mono hS.foot⟩

set_option maxHeartbeats 800000 in
theorem szDependencyS_c (v : Value) (l : List Dep) (left : Int) (w : World) (hl : DependencyS_at w w.heap.size v l) (hw : DependencyS_wf l) (h0 : 0 ≤ left) (h1 : left ≤ 1048576) :
    Calls Tryz.prog 53 #[v, .int .i64 left] w fun e w' => e = .returned (.int .i64 (szLeft left (DependencyS_sz l : Nat))) ∧ Below w.heap.size w w' := by
  have HL := Lib.hid hl
  obtain ⟨A, c, rfl, hlc, hcm⟩ := hl.form
  clear hl
  unfold maxLen at hcm
  have hsz : ((DependencyS_sz l : Nat) : Int) = (l.length : Int) + (depsLen l : Nat) := by unfold DependencyS_sz; omega
  rw [hsz]
  clear hsz
  by_cases hn : (l.length : Int) ≤ left
  · go_enter Tryz.func53, Tryz.ntmps53
    go_wp2
    go_loopw [1, 5] (fun lf i wr => ∃ k : Nat, k ≤ l.length ∧ i = .int .i64 k ∧ lf = .int .i64 (left - l.length - (depsLen (l.take k) : Nat)) ∧ (l.length : Int) + (depsLen (l.take k) : Nat) ≤ left ∧ Below w.heap.size w wr) (fun _ i _ => l.length - (intOf i).toNat)
    case atStart => exact ⟨0, by omega, rfl, by simp [depsLen], by simp [depsLen]; omega, Below.refl _ _⟩
    case round =>
      obtain ⟨k, hk, rfl, rfl, hle, hW⟩ := hrel
      have hz := hW.size
      by_cases hlt : k < l.length
      · obtain ⟨b, off, V, U, rfl, hb, c0, c1, c2, c3, c4, hV, hU⟩ := DependencyS_at.elem (HL.out.below hW (Nat.le_refl _)) k hlt
        have HT := Lib.hid (depsLen_take l k hlt)
        have HLE := Lib.hid (depsLen_le l (k + 1))
        generalize depsLen (l.take k) = q at *
        have hq : 0 ≤ left - l.length - (q : Int) := by omega
        have hat : Dependency_at wr wr.heap.size (.agg #[V, U, .bool l[k].egd, .int .i64 l[k].left, .int .i64 l[k].right]) l[k] := ⟨V, U, rfl, hV.more hz, hU.more hz⟩
        have hsz := szDependency_c _ l[k] (left - l.length - (q : Int)) wr hat (hw k hlt) hq (by omega)
        clear hat
        by_cases hfit : ((Dependency_sz l[k] : Nat) : Int) ≤ left - l.length - (q : Int)
        · rw [szLeft_yes hfit] at hsz
          have e1 : left - l.length - (q : Int) - (Dependency_sz l[k] : Nat) = left - l.length - ((q + Dependency_sz l[k] : Nat) : Int) := by omega
          rw [e1] at hsz
          clear e1
          go_wp2_with (go_at_call 132; refine hsz.mono ?_; rintro e w1 ⟨rfl, hb1⟩)
          go_roundw
          case rel => exact ⟨k + 1, by omega, by go_num, by rw [HT.out]; go_num, by rw [HT.out]; omega, hW.trans (hb1.mono hz)⟩
          case measure => simp [intOf]; omega
        · rw [szLeft_no hfit] at hsz
          have e2 := Lib.hid (szLeft_no (left := left) (n := (l.length : Int) + (depsLen l : Nat)) (by have := HT.out; have := HLE.out; omega))
          go_wp2_with (go_at_call 132; refine hsz.mono ?_; rintro e w1 ⟨rfl, hb1⟩)
          go_ret
          exact ⟨ret_int e2.out.symm, hW.trans (hb1.mono hz)⟩
      · obtain rfl : k = l.length := by omega
        have HT := Lib.hid (congrArg depsLen (List.take_length (l := l)))
        generalize depsLen (l.take l.length) = q at *
        have e2 := Lib.hid (szLeft_yes (left := left) (n := (l.length : Int) + (depsLen l : Nat)) (by have := HT.out; omega))
        go_wp2
        go_ret
        exact ⟨ret_int (by rw [e2.out]; have := HT.out; omega), hW⟩
  · have e2 := Lib.hid (szLeft_no (left := left) (n := (l.length : Int) + (depsLen l : Nat)) (by omega))
    go_enter Tryz.func53, Tryz.ntmps53
    go_wp2
    go_ret
    exact ⟨ret_int e2.out.symm, Below.refl _ _⟩

set_option maxHeartbeats 1600000 in
theorem toDependencyS_c (v : Value) (l : List Dep) (w : World) (hl : DependencyS_at w w.heap.size v l) (hn : DependencyS_sz l ≤ 1048576) :
    Calls Tryz.prog 55 #[v] w fun e w' => ∃ u, e = .returned u ∧ DependencyS_own w.heap.size w'.heap.size u l w' ∧ Below w.heap.size w w' := by
  have HL := Lib.hid hl
  obtain ⟨A, c, rfl, hlc, hcm⟩ := hl.form
  clear hl
  unfold maxLen at hcm
  have hn1 : l.length ≤ 1048576 := by unfold DependencyS_sz at hn; omega
  have hel : ∀ k (h : k < l.length), Dependency_sz l[k] ≤ 1048576 := fun k h => by
    have h1 := depsLen_take l k h
    have h2 := depsLen_le l (k + 1)
    unfold DependencyS_sz at hn; omega
  have hmk := fun w => make_deps w l.length hn1
  go_enter Tryz.func55, Tryz.ntmps55
  go_wp2
  clear hmk
  go_loopw [4] (fun i wr => ∃ k : Nat, ∃ Xs, k ≤ l.length ∧ i = .int .i64 k ∧ DependencySO 37 w.heap.size wr.heap.size (.slice (some ⟨w.heap.size, 0, none⟩) l.length l.length) Xs (l.take k ++ List.replicate (l.length - k) zeroDep) wr ∧ Below w.heap.size w wr) (fun i _ => l.length - (intOf i).toNat)
  case atStart => exact ⟨0, _, by omega, rfl, (DependencySO.made w l.length hn1).mono (Nat.le_refl _) (by simp), (Below.refl _ _).alloc (Nat.le_refl _) _⟩
  case round =>
    obtain ⟨k, Xs, hk, rfl, hO, hW⟩ := hrel
    have hz := hW.size
    by_cases hlt : k < l.length
    · obtain ⟨b, off, V, U, rfl, hb, c0, c1, c2, c3, c4, hV, hU⟩ := DependencyS_at.elem (HL.out.below hW (Nat.le_refl _)) k hlt
      have hcon := toDependency_c (.agg #[V, U, .bool l[k].egd, .int .i64 l[k].left, .int .i64 l[k].right]) l[k] wr ⟨V, U, rfl, hV.more hz, hU.more hz⟩ (hel k hlt)
      have hlen : (l.take k ++ List.replicate (l.length - k) zeroDep).length = l.length := by simp; omega
      have hkl : k < (l.take k ++ List.replicate (l.length - k) zeroDep).length := by omega
      have hkv : k < Xs.length := by rw [hO.len]; exact hkl
      have HLen := Lib.hid hlen
      have HO := Lib.hid hO
      clear hlen hO
      go_wp2_with fail
      refine hcon.mono ?_
      rintro e w1 ⟨u, rfl, hu, hb1⟩
      have hz1 := hb1.size
      obtain ⟨Y1, Y2, Vs1, Vs2, rfl, ho1, ho2, hne⟩ := hu
      obtain ⟨P1, p1, rfl, -, -⟩ := (ho1.at_ (Nat.le_refl _)).form
      obtain ⟨P2, p2, rfl, -, -⟩ := (ho2.at_ (Nat.le_refl _)).form
      have hX : DepOwn wr.heap.size w1.heap.size ((.slice P1 l[k].body.length p1, Vs1), (.slice P2 l[k].head.length p2, Vs2)) l[k] w1 := ⟨ho1, ho2, hne⟩
      have hO1 := HO.out.below hb1 (Nat.le_refl _)
      obtain ⟨d0, d1, d2, d3, d4⟩ := hO1.cells HLen.out k hkl hkv
      have hfz := hO1.frozen HLen.out
      have HS := Lib.hid (DependencySO.set (e := 37) (by decide) (by decide) (hO1.mono (Nat.le_refl _) hz1) HLen.out k hlt l[k] _ (hX.mono hz (Nat.le_refl _)) (fun i hi _ q hq1 hq2 => by
        have h1 := (hX.foot q hq2).1
        have h2 := ((HO.out.el i (by have := HO.out.len; omega) hi).foot q hq1).2
        omega))
      clear hO1 hX ho1 ho2 hne
      go_wp2
      go_roundw
      case rel => exact ⟨k + 1, _, by omega, by go_num, by rw [← take_zero_dep l k hlt]; exact HS.out.mono (Nat.le_refl _) (by simp [World.setCell]), (((((hW.trans (hb1.mono hz)).setCell (p := ⟨w.heap.size, k * 5, none⟩) (Nat.le_refl _) _).setCell (p := ⟨w.heap.size, k * 5 + 1, none⟩) (Nat.le_refl _) _).setCell (p := ⟨w.heap.size, k * 5 + 2, none⟩) (Nat.le_refl _) _).setCell (p := ⟨w.heap.size, k * 5 + 3, none⟩) (Nat.le_refl _) _).setCell (p := ⟨w.heap.size, k * 5 + 4, none⟩) (Nat.le_refl _) _⟩
      case measure => simp [intOf]; omega
    · obtain rfl : k = l.length := by omega
      have hO' : DependencySO 37 w.heap.size wr.heap.size (.slice (some ⟨w.heap.size, 0, none⟩) l.length l.length) Xs l wr := by simpa using hO
      clear hO
      go_wp2
      go_ret
      exact ⟨_, rfl, ⟨Xs, hO'⟩, hW⟩

def depsOk (l : List Rel) (xs : List Dep) : Bool := validRels l && (decide (xs.length ≤ 5) && xs.all (depOk l))

/-- the slice value cv reads as code; its block is not p -/
def CodeAt (w : World) (p : Nat) (cv : Value) (code : List UInt8) : Prop :=
  (∃ q c, cv = .slice q 0 c ∧ code = []) ∨
  ∃ b off cap, cv = .slice (some ⟨b, off, none⟩) code.length cap ∧ (0 < code.length → b ≠ p) ∧ ∀ j, j < code.length → w.cell? ⟨b, off + j, none⟩ = some (byteV (code.getD j 0))
theorem CodeAt.cell_block {w : World} {a : Addr} {v : Value} (h : w.cell? a = some v) : a.block < w.heap.size := World.block_lt_of_cell? w a h
theorem CodeAt.kept {w w' : World} {p : Nat} {cv : Value} {code : List UInt8} (h : CodeAt w p cv code) (hg : w.grownBy w' (some p)) : CodeAt w' p cv code := by
  rcases h with h | ⟨b, off, cap, h1, h2, h3⟩
  · exact Or.inl h
  · exact Or.inr ⟨b, off, cap, h1, h2, fun j hj => hg.cell (h3 j hj) (by simpa using h2 (by omega))⟩
theorem CodeAt.alloc {w : World} {p : Nat} {cv : Value} {code : List UInt8} (h : CodeAt w p cv code) (o : Obj) : CodeAt (w.alloc o) p cv code :=
  h.kept (World.grownBy_alloc w o _)

def newStep (h : Nat) (b : UInt8) : Nat := (h * 131 + b.toNat + 7) % 1073741824
def newH (code : List UInt8) (k : Nat) : Nat := (code.take k).foldl newStep (10101 + code.length)
theorem newH_succ (code : List UInt8) (k : Nat) (h : k < code.length) : newH code (k + 1) = newStep (newH code k) code[k] := by
  unfold newH; rw [List.take_succ_eq_append_getElem h, List.foldl_append]; rfl
theorem newH_lt (code : List UInt8) (hc : code.length ≤ 1048576) : ∀ k, newH code k < 1073741824
  | 0 => by simp [newH]; omega
  | k + 1 => by
    by_cases h : k < code.length
    · rw [newH_succ code k h]; exact Nat.mod_lt _ (by decide)
    · have : newH code (k + 1) = newH code k := by unfold newH; rw [List.take_of_length_le (by omega), List.take_of_length_le (by omega)]
      rw [this]; exact newH_lt code hc k
/-- the state of a draw: block p holds the code, how much of it is used, and the mixing number -/
structure Cur (w : World) (p : Nat) (cv : Value) (code : List UInt8) (i : Nat) (h : Int) : Prop where
  c0 : w.cell? ⟨p, 0, none⟩ = some cv
  c1 : w.cell? ⟨p, 1, none⟩ = some (.int .i64 i)
  c2 : w.cell? ⟨p, 2, none⟩ = some (.int .i64 h)
  fr : ∀ j, w.frozen? ⟨p, j, none⟩ = false
  txt : CodeAt w p cv code
  ile : i ≤ code.length
  clen : code.length ≤ 1048576
  hlo : -9223372036854775808 ≤ h
  hhi : h ≤ 9223372036854775807

theorem Cur.made (w : World) (cv : Value) (code : List UInt8) (h : Int) (T : TypeId) (hc : CodeAt w w.heap.size cv code) (hl : code.length ≤ 1048576) (h0 : -9223372036854775808 ≤ h) (h1 : h ≤ 9223372036854775807) :
    Cur (w.alloc (.cells #[cv, .int .i64 0, .int .i64 h] T)) w.heap.size cv code 0 h :=
  ⟨by rw [World.cell?_alloc_at _ _ _ _ rfl]; rfl, by rw [World.cell?_alloc_at _ _ _ _ rfl]; rfl, by rw [World.cell?_alloc_at _ _ _ _ rfl]; rfl,
    fun j => World.frozen?_alloc_at _ _ _ _ rfl, hc.alloc _, by omega, hl, h0, h1⟩

set_option maxHeartbeats 800000 in
set_option maxRecDepth 100000 in
theorem l1New_any (cv : Value) (code : List UInt8) (w : World) (hc : CodeAt w w.heap.size cv code) (hlen : code.length ≤ 1048576) :
    Calls Tryz.prog 77 #[cv] w fun e w' => e = .returned (.pointer (some ⟨w.heap.size, 0, none⟩)) ∧ (∃ o, w' = w.alloc o) ∧ Cur w' w.heap.size cv code 0 ((newH code 4000 : Nat) : Int) := by
  have hc' := hc
  have hlt := newH_lt code hlen 4000
  rcases hc with ⟨q, c, rfl, rfl⟩ | ⟨b, off, cap, rfl, hb, hcell⟩
  · have hN : newH [] 4000 = 10101 := rfl
    rw [hN]
    go_enter Tryz.func77, Tryz.ntmps77
    go_wp2
    refine wp_loop_rounds 1 ?_
    rw [rounds_succ]
    go_wp2
    go_ret
    exact ⟨rfl, ⟨_, rfl⟩, Cur.made w _ _ _ _ hc' hlen (by decide) (by decide)⟩
  · go_enter Tryz.func77, Tryz.ntmps77
    go_wp2
    go_loop [3, 4] (fun h i => ∃ k : Nat, k ≤ code.length ∧ k ≤ 4000 ∧ i = .int .i64 (k : Int) ∧ h = .int .i64 ((newH code k : Nat) : Int)) (fun _ i => 4000 - (intOf i).toNat)
    case atStart => exact ⟨0, by omega, by omega, rfl, by simp [newH]⟩
    case round =>
      obtain ⟨k, hk, hk4, rfl, rfl⟩ := hrel
      have hl := newH_lt code hlen k
      by_cases hlt : k < code.length
      · by_cases h4 : k < 4000
        · have hx := hcell k hlt
          have HS := Lib.hid (newH_succ code k hlt)
          have hbx : (code.getD k 0) = code[k] := by simp [List.getD, List.getElem?_eq_getElem hlt]
          rw [hbx] at hx
          have hb1 := (code[k]).toNat_lt
          unfold byteV at hx
          clear hcell hbx
          generalize code[k] = x at *
          generalize newH code k = H at *
          have hand : bits .and .i64 ((H : Int) * 131 + (x.toNat : Nat) + 7) 1073741823 = ((H : Int) * 131 + (x.toNat : Nat) + 7) % 1073741824 := i64_and 30 _ (by decide) (by omega) (by omega)
          go_wp2
          go_round
          case rel => exact ⟨k + 1, by omega, by omega, by go_num, by rw [HS.out]; unfold newStep; go_num⟩
          case measure => simp [intOf]; omega
        · have hkk : k = 4000 := by omega
          subst hkk
          go_wp2
          go_ret
          exact ⟨rfl, ⟨_, rfl⟩, Cur.made w _ _ _ _ hc' hlen (by omega) (by omega)⟩
      · have hkk : newH code k = newH code 4000 := by unfold newH; rw [List.take_of_length_le (by omega), List.take_of_length_le (by omega)]
        have HK := Lib.hid hkk
        clear hkk
        go_wp2
        go_ret
        refine ⟨rfl, ⟨_, rfl⟩, ?_⟩
        rw [HK.out]
        exact Cur.made w _ _ _ _ hc' hlen (by omega) (by omega)

def nextH (h : Int) : Int := wrap64 (wrap64 (h * 6364136223846793005) + 1442695040888963407)
def mixX (h : Int) : Int := bits .and .i64 (bits .xor .i64 (h / 8589934592) (h / 35184372088832)) 255
def byteX (code : List UInt8) (i : Nat) (h : Int) : Int := if i < code.length then (mixX (nextH h) + ((code.getD i 0).toNat : Nat)) % 256 else mixX (nextH h)
def stepI (code : List UInt8) (i : Nat) : Nat := if i < code.length then i + 1 else i
theorem and255 (y : Int) : 0 ≤ bits .and .i64 y 255 ∧ bits .and .i64 y 255 < 256 := by
  have h : (BitVec.ofInt 64 y &&& BitVec.ofInt 64 255).toNat < 256 := by
    rw [BitVec.toNat_and]
    exact Nat.lt_of_le_of_lt Nat.and_le_right (by decide)
  have e : bits .and .i64 y 255 = IntKind.i64.wrap (((BitVec.ofInt 64 y &&& BitVec.ofInt 64 255).toNat : Nat) : Int) := rfl
  rw [e, IntWalk.i64_in _ (by omega)]; omega
theorem wrap64_bd (n : Int) : -9223372036854775808 ≤ wrap64 n ∧ wrap64 n ≤ 9223372036854775807 := by unfold wrap64; omega
theorem mixX_bd (h : Int) : 0 ≤ mixX h ∧ mixX h < 256 := and255 _
theorem byteX_bd (code : List UInt8) (i : Nat) (h : Int) : 0 ≤ byteX code i h ∧ byteX code i h ≤ 255 := by
  have := mixX_bd (nextH h); unfold byteX; split <;> omega
theorem setCell_grown (w : World) (p j : Nat) (u : Value) : w.grownBy (w.setCell ⟨p, j, none⟩ u) (some p) :=
  ⟨rfl, rfl, rfl, by simp, fun k _ hk => Below.heap_setCell w ⟨p, j, none⟩ u k (fun e => hk (by rw [e]))⟩
theorem Cur.drewN {w : World} {p : Nat} {cv : Value} {code : List UInt8} {i : Nat} {h : Int} (hC : Cur w p cv code i h) (n : Nat) : Cur (w.drewN n) p cv code i h :=
  ⟨hC.c0, hC.c1, hC.c2, hC.fr, hC.txt, hC.ile, hC.clen, hC.hlo, hC.hhi⟩
theorem Cur.setH {w : World} {p : Nat} {cv : Value} {code : List UInt8} {i : Nat} {h : Int} (hC : Cur w p cv code i h) (H : Int) (h0 : -9223372036854775808 ≤ H) (h1 : H ≤ 9223372036854775807) :
    Cur (w.setCell ⟨p, 2, none⟩ (.int .i64 H)) p cv code i H :=
  ⟨(World.cell?_setCell_other (w := _) (a := _) (v := _) (b := _) (by simp)).trans hC.c0, (World.cell?_setCell_other (w := _) (a := _) (v := _) (b := _) (by simp)).trans hC.c1, World.cell?_setCell_same (w := _) (a := _) (v := _) hC.c2, fun j => by rw [World.frozen?_setCell]; exact hC.fr j,
    hC.txt.kept (setCell_grown w p 2 _), hC.ile, hC.clen, h0, h1⟩
theorem Cur.setI {w : World} {p : Nat} {cv : Value} {code : List UInt8} {i : Nat} {h : Int} (hC : Cur w p cv code i h) (hi : i < code.length) :
    Cur (w.setCell ⟨p, 1, none⟩ (.int .i64 ((i : Int) + 1))) p cv code (i + 1) h :=
  ⟨(World.cell?_setCell_other (w := _) (a := _) (v := _) (b := _) (by simp)).trans hC.c0, World.cell?_setCell_same (w := _) (a := _) (v := _) hC.c1, (World.cell?_setCell_other (w := _) (a := _) (v := _) (b := _) (by simp)).trans hC.c2, fun j => by rw [World.frozen?_setCell]; exact hC.fr j,
    hC.txt.kept (setCell_grown w p 1 _), by omega, hC.clen, hC.hlo, hC.hhi⟩
theorem grown_drewN {w w' : World} {r : Option Nat} (h : w.grownBy w' r) (n : Nat) : w.grownBy (w'.drewN n) r := ⟨h.os, h.tape, h.output, h.size, h.block⟩

set_option maxHeartbeats 1000000 in
set_option maxRecDepth 100000 in
theorem l1Byte_any (p : Nat) (cv : Value) (code : List UInt8) (i : Nat) (h : Int) (w : World) (hC : Cur w p cv code i h) :
    Calls Tryz.prog 167 #[.pointer (some ⟨p, 0, none⟩)] w fun e w' => e = .returned (.int .i64 (byteX code i h)) ∧ Cur w' p cv code (stepI code i) (nextH h) ∧ w.grownBy w' (some p) := by
  have h0 := hC.c0
  have h1 := hC.c1
  have h2 := hC.c2
  have f1 := hC.fr 1
  have f2 := hC.fr 2
  have hclen := hC.clen
  have hile := hC.ile
  have hbd := wrap64_bd (wrap64 (h * 6364136223846793005) + 1442695040888963407)
  by_cases hlt : i < code.length
  · rcases hC.txt with ⟨q, c, rfl, rfl⟩ | ⟨b, off, cap, rfl, hb, hcell⟩
    · simp at hlt
    · have hx := hcell i hlt
      have hb := hb (by omega)
      clear hcell
      unfold byteV at hx
      have hres : Hid (byteX code i h = (mixX (nextH h) + ((code.getD i 0).toNat : Nat)) % 256) := by unfold Hid byteX; rw [if_pos hlt]
      have hst : Hid (stepI code i = i + 1) := by unfold Hid stepI; rw [if_pos hlt]
      have hxb := (code.getD i 0).toNat_lt
      generalize code.getD i 0 = x at *
      go_enter Tryz.func167, Tryz.ntmps167
      go_wp2
      have hN : Hid (nextH h = wrap64 (wrap64 (h * 6364136223846793005) + 1442695040888963407)) := rfl
      generalize wrap64 (wrap64 (h * 6364136223846793005) + 1442695040888963407) = H at *
      go_quiet (fail)
      go_wp2
      have hM : Hid (mixX H = bits .and .i64 (bits .xor .i64 (H / 8589934592) (H / 35184372088832)) 255) := rfl
      have hmb := and255 (bits .xor .i64 (H / 8589934592) (H / 35184372088832))
      generalize bits .and .i64 (bits .xor .i64 (H / 8589934592) (H / 35184372088832)) 255 = X at *
      go_quiet (fail)
      go_wp2
      have q0 : 0 ≤ X + ((x.toNat : Nat) : Int) := by omega
      have q1 : IntKind.i64.wrap ((x.toNat : Nat) : Int) = ((x.toNat : Nat) : Int) := IntWalk.i64_in _ (by omega)
      have q2 : IntKind.i64.wrap (X + ((x.toNat : Nat) : Int)) = X + ((x.toNat : Nat) : Int) := IntWalk.i64_in _ (by omega)
      have q3 : bits .and .i64 (X + ((x.toNat : Nat) : Int)) 255 = (X + ((x.toNat : Nat) : Int)) % 256 := i64_and 8 _ (by decide) q0 (by omega)
      go_quiet (fail)
      clear q1 q2 q3
      go_wp2
      go_ret
      exact ⟨ret_int (by rw [hres.out, hN.out, hM.out]), by rw [hst.out, hN.out]; exact ((hC.setH H hbd.1 hbd.2).drewN _).setI hlt, (grown_drewN (setCell_grown w p 2 _) _).trans (setCell_grown _ p 1 _)⟩
  · have hres : Hid (byteX code i h = mixX (nextH h)) := by unfold Hid byteX; rw [if_neg hlt]
    have hst : Hid (stepI code i = i) := by unfold Hid stepI; rw [if_neg hlt]
    have hgo : ∀ (cv' : Value), cv' = cv → ∀ (l c : Nat) (q : Option Addr), cv = .slice q l c → l = code.length → Calls Tryz.prog 167 #[.pointer (some ⟨p, 0, none⟩)] w fun e w' => e = .returned (.int .i64 (byteX code i h)) ∧ Cur w' p cv code (stepI code i) (nextH h) ∧ w.grownBy w' (some p) := by
      rintro cv' rfl l c q rfl rfl
      go_enter Tryz.func167, Tryz.ntmps167
      go_wp2
      have hN : Hid (nextH h = wrap64 (wrap64 (h * 6364136223846793005) + 1442695040888963407)) := rfl
      generalize wrap64 (wrap64 (h * 6364136223846793005) + 1442695040888963407) = H at *
      go_quiet (fail)
      go_wp2
      have hM : Hid (mixX H = bits .and .i64 (bits .xor .i64 (H / 8589934592) (H / 35184372088832)) 255) := rfl
      generalize bits .and .i64 (bits .xor .i64 (H / 8589934592) (H / 35184372088832)) 255 = X at *
      go_quiet (fail)
      go_wp2
      go_ret
      exact ⟨ret_int (by rw [hres.out, hN.out, hM.out]), by rw [hst.out, hN.out]; exact ((hC.setH H hbd.1 hbd.2).drewN _).drewN _, grown_drewN (grown_drewN (setCell_grown w p 2 _) _) _⟩
    rcases hC.txt with ⟨q, c, h1, h2⟩ | ⟨b, off, cap, h1, hb, hcell⟩
    · exact hgo cv rfl 0 c q h1 (by rw [h2]; rfl)
    · exact hgo cv rfl _ _ _ h1 rfl
/-- the state of a draw between two calls -/
abbrev DrawSt := Nat × Int
def CurS (w : World) (p : Nat) (cv : Value) (code : List UInt8) (st : DrawSt) : Prop := Cur w p cv code st.1 st.2
def byteR (code : List UInt8) (st : DrawSt) : Int × DrawSt := (byteX code st.1 st.2, (stepI code st.1, nextH st.2))
def belowR (code : List UInt8) (st : DrawSt) (n : Int) : Int × DrawSt :=
  if n ≤ 0 then (0, st) else if n ≤ 256 then ((byteR code st).1 % n, (byteR code st).2) else
    let a := byteR code st
    let b := byteR code a.2
    let c := byteR code b.2
    let d := byteR code c.2
    ((a.1 * 16777216 + b.1 * 65536 + c.1 * 256 + d.1) % n, d.2)
theorem byteR_bd (code : List UInt8) (st : DrawSt) : 0 ≤ (byteR code st).1 ∧ (byteR code st).1 ≤ 255 := byteX_bd _ _ _
theorem belowR_bd (code : List UInt8) (st : DrawSt) (n : Int) : 0 ≤ (belowR code st n).1 ∧ (1 ≤ n → (belowR code st n).1 < n) := by
  unfold belowR
  split
  · exact ⟨by simp, fun h => by omega⟩
  · split
    · exact ⟨Int.emod_nonneg _ (by omega), fun h => Int.emod_lt_of_pos _ (by omega)⟩
    · exact ⟨Int.emod_nonneg _ (by omega), fun h => Int.emod_lt_of_pos _ (by omega)⟩
/-- what a draw's contract says: its result, the state behind it, nothing else turned -/
def Drew (w : World) (p : Nat) (cv : Value) (code : List UInt8) (r : Value × DrawSt) (e : Ending) (w' : World) : Prop :=
  e = .returned r.1 ∧ CurS w' p cv code r.2 ∧ w.grownBy w' (some p)
theorem l1Byte_r (p : Nat) (cv : Value) (code : List UInt8) (st : DrawSt) (w : World) (hC : CurS w p cv code st) :
    Calls Tryz.prog 167 #[.pointer (some ⟨p, 0, none⟩)] w (Drew w p cv code (.int .i64 (byteR code st).1, (byteR code st).2)) :=
  (l1Byte_any p cv code st.1 st.2 w hC).mono fun _ _ h => h
set_option maxHeartbeats 1000000 in
set_option maxRecDepth 100000 in
theorem l1Below_r (p : Nat) (cv : Value) (code : List UInt8) (st : DrawSt) (n : Int) (w : World) (hC : CurS w p cv code st) :
    Calls Tryz.prog 165 #[.pointer (some ⟨p, 0, none⟩), .int .i64 n] w (Drew w p cv code (.int .i64 (belowR code st n).1, (belowR code st n).2)) := by
  by_cases h0 : n ≤ 0
  · have hr : belowR code st n = (0, st) := by unfold belowR; rw [if_pos h0]
    rw [hr]
    go_enter Tryz.func165, Tryz.ntmps165
    go_wp2
    go_ret
    exact ⟨rfl, hC, World.grownBy.refl _ _⟩
  · by_cases h1 : n ≤ 256
    · have hr : belowR code st n = ((byteR code st).1 % n, (byteR code st).2) := by unfold belowR; rw [if_neg h0, if_pos h1]
      rw [hr]
      have hb := byteR_bd code st
      go_enter Tryz.func165, Tryz.ntmps165
      go_wp2_with (go_at_call 167; refine (l1Byte_r p cv code st _ (by assumption)).mono ?_; rintro e w1 ⟨rfl, hC1, hg1⟩)
      go_ret
      exact ⟨rfl, hC1, hg1⟩
    · have hr : belowR code st n = (((byteR code st).1 * 16777216 + (byteR code (byteR code st).2).1 * 65536 + (byteR code (byteR code (byteR code st).2).2).1 * 256 + (byteR code (byteR code (byteR code (byteR code st).2).2).2).1) % n, (byteR code (byteR code (byteR code (byteR code st).2).2).2).2) := by
        unfold belowR; rw [if_neg h0, if_neg h1]
      rw [hr]
      clear hr
      have ha := byteR_bd code st
      have hb := byteR_bd code (byteR code st).2
      have hc := byteR_bd code (byteR code (byteR code st).2).2
      have hd := byteR_bd code (byteR code (byteR code (byteR code st).2).2).2
      go_enter Tryz.func165, Tryz.ntmps165
      go_wp2_with fail
      refine (l1Byte_r p cv code _ _ hC).mono ?_; rintro e w1 ⟨rfl, hC1, hg1⟩
      go_wp2_with fail
      refine (l1Byte_r p cv code _ _ hC1).mono ?_; rintro e w2 ⟨rfl, hC2, hg2⟩
      go_wp2_with fail
      refine (l1Byte_r p cv code _ _ hC2).mono ?_; rintro e w3 ⟨rfl, hC3, hg3⟩
      go_wp2_with fail
      refine (l1Byte_r p cv code _ _ hC3).mono ?_; rintro e w4 ⟨rfl, hC4, hg4⟩
      go_wp2_with fail
      go_ret
      exact ⟨rfl, hC4, ((hg1.trans hg2).trans hg3).trans hg4⟩

theorem Drew.intro {w w' : World} {p : Nat} {cv : Value} {code : List UInt8} {r : Value × DrawSt} {e : Ending} (h1 : e = .returned r.1) (h2 : CurS w' p cv code r.2) (h3 : w.grownBy w' (some p)) : Drew w p cv code r e w' := ⟨h1, h2, h3⟩
theorem Cur.lt {w : World} {p : Nat} {cv : Value} {code : List UInt8} {i : Nat} {h : Int} (hC : Cur w p cv code i h) : p < w.heap.size := World.block_lt_of_cell? w _ hC.c0
theorem Cur.alloc {w : World} {p : Nat} {cv : Value} {code : List UInt8} {i : Nat} {h : Int} (hC : Cur w p cv code i h) (o : Obj) : Cur (w.alloc o) p cv code i h :=
  ⟨(World.cell?_alloc_lt (w := _) (o := _) (a := _) hC.lt).trans hC.c0, (World.cell?_alloc_lt (w := _) (o := _) (a := _) hC.lt).trans hC.c1, (World.cell?_alloc_lt (w := _) (o := _) (a := _) hC.lt).trans hC.c2,
    fun j => (World.frozen?_alloc_old _ _ _ (Nat.ne_of_lt hC.lt)).trans (hC.fr j), hC.txt.alloc _, hC.ile, hC.clen, hC.hlo, hC.hhi⟩

theorem Cur.below {w0 wr w' : World} {p : Nat} {cv : Value} {code : List UInt8} {i0 i : Nat} {h0 h : Int} (hC0 : Cur w0 p cv code i0 h0) (hC : Cur wr p cv code i h) (hb : Below w0.heap.size wr w') : Cur w' p cv code i h := by
  have hp := hC0.lt
  have hc : ∀ j, w'.cell? ⟨p, j, none⟩ = wr.cell? ⟨p, j, none⟩ := fun j => hb.cell (p := ⟨p, j, none⟩) hp
  refine ⟨(hc 0).trans hC.c0, (hc 1).trans hC.c1, (hc 2).trans hC.c2, fun j => (hb.frozen (p := ⟨p, j, none⟩) hp).trans (hC.fr j), ?_, hC.ile, hC.clen, hC.hlo, hC.hhi⟩
  rcases hC.txt with h | ⟨b, off, cap, h1, h2, h3⟩
  · exact Or.inl h
  · refine Or.inr ⟨b, off, cap, h1, h2, fun j hj => ?_⟩
    have hlt : b < w0.heap.size := by
      rcases hC0.txt with ⟨_, _, h4, h5⟩ | ⟨b', off', cap', h4, _, h6⟩
      · rw [h5] at hj; simp at hj
      · rw [h1] at h4; injection h4 with h4; injection h4 with h4; injection h4 with h4; subst h4
        exact World.block_lt_of_cell? w0 _ (h6 j hj)
    rw [hb.cell (p := ⟨b, off + j, none⟩) hlt]; exact h3 j hj
theorem grown_of_below {w wr w' : World} {p : Nat} (hg : w.grownBy wr (some p)) (hb : Below w.heap.size wr w') : w.grownBy w' (some p) :=
  ⟨hb.os.trans hg.os, hb.tape.trans hg.tape, hb.output.trans hg.output, Nat.le_trans hg.size hb.size, fun k hk hne => (hb.block k hk).trans (hg.block k hk hne)⟩
theorem Buf.grown {B : Nat} {v : Value} {l : List UInt8} {w w' : World} {p : Nat} (h : Buf B v l w) (hg : w.grownBy w' (some p)) (hp : p < B) : Buf B v l w' :=
  World.ownsRow.kept h hg (by
    cases hv : v.ownBlock with
    | none => exact Or.inl rfl
    | some k => right; intro he; injection he with he; have := (World.ownsRow.lt h k hv).1; omega)

def st0 (code : List UInt8) : DrawSt := (0, ((newH code 4000 : Nat) : Int))
theorem l1New_c (cv : Value) (code : List UInt8) (w : World) (hc : CodeAt w w.heap.size cv code) (hlen : code.length ≤ 1048576) :
    Calls Tryz.prog 77 #[cv] w fun e w' => e = .returned (.pointer (some ⟨w.heap.size, 0, none⟩)) ∧ Below w.heap.size w w' ∧ CurS w' w.heap.size cv code (st0 code) :=
  (l1New_any cv code w hc hlen).mono fun e w' ⟨h1, ⟨o, h2⟩, h3⟩ => ⟨h1, by rw [h2]; exact (Below.refl _ _).alloc (Nat.le_refl _) o, h3⟩
theorem below_of_draw {w w1 w2 : World} (h1 : Below w.heap.size w w1) (h2 : w1.grownBy w2 (some w.heap.size)) : Below w.heap.size w w2 :=
  h1.grown h2 h1.size (fun k hk => by injection hk with hk; omega)
/-- the code is read anywhere later as it was -/
theorem CodeAt.later {w w' : World} {cv : Value} {code : List UInt8} (h : CodeAt w w.heap.size cv code) (hb : Below w.heap.size w w') : CodeAt w' w'.heap.size cv code := by
  rcases h with h | ⟨b, off, cap, h1, h2, h3⟩
  · exact Or.inl h
  · have hlt : 0 < code.length → b < w.heap.size := fun hn => World.block_lt_of_cell? w _ (h3 0 hn)
    have := hb.size
    exact Or.inr ⟨b, off, cap, h1, fun hn => by have := hlt hn; omega, fun j hj => by rw [hb.cell (p := ⟨b, off + j, none⟩) (hlt (by omega))]; exact h3 j hj⟩

def strV (l : List UInt8) : Value := .string ⟨l.toArray⟩
def pickR (code : List UInt8) (st : DrawSt) (ls : List (List UInt8)) : List UInt8 × DrawSt := (ls.getD (belowR code st ls.length).1.toNat [], (belowR code st ls.length).2)
theorem strCells_new (w : World) (T : TypeId) (ls : List (List UInt8)) (j : Nat) (hj : j < ls.length) : (w.alloc (.cells (ls.map strV).toArray T)).cell? ⟨w.heap.size, j, none⟩ = some (.string ⟨(ls.getD j []).toArray⟩) := by
  rw [World.cell?_alloc_at _ _ _ _ rfl]; simp [List.getD, List.getElem?_eq_getElem hj, strV]
set_option maxHeartbeats 400000 in
set_option maxRecDepth 100000 in
theorem l1Pick_r (p : Nat) (cv : Value) (code : List UInt8) (st : DrawSt) (ls : List (List UInt8)) (w0 : World) (T : TypeId) (hz : 1 ≤ ls.length) (hz2 : ls.length ≤ 1000) (hp : p < w0.heap.size) (w : World) (hw : w = w0.alloc (.cells (ls.map strV).toArray T)) (n c : Nat) (hn : n = ls.length) (hC : CurS w p cv code st) :
    Calls Tryz.prog 79 #[.pointer (some ⟨p, 0, none⟩), .slice (some ⟨w0.heap.size, 0, none⟩) n c] w (Drew w p cv code (.string ⟨(pickR code st ls).1.toArray⟩, (pickR code st ls).2)) := by
  subst hn
  have hb := belowR_bd code st ls.length
  have hb2 := hb.2 (by omega)
  have hb1 := hb.1
  clear hb
  have hcell : w.cell? ⟨w0.heap.size, (belowR code st ls.length).1.toNat, none⟩ = some (.string ⟨(pickR code st ls).1.toArray⟩) := by
    rw [hw]; exact strCells_new w0 T ls _ (by omega)
  clear hw
  have hne : some w0.heap.size ≠ some p := by intro h; injection h with h; omega
  go_enter Tryz.func79, Tryz.ntmps79
  go_wp2_with fail
  refine (l1Below_r p cv code st _ _ hC).mono ?_; rintro e w1 ⟨rfl, hC1, hg1⟩
  have hcell1 := hg1.cell hcell hne
  obtain ⟨k, hk⟩ := Int.eq_ofNat_of_zero_le hb1
  have hK := Lib.hid hk
  dsimp only at *
  rw [hk] at hcell1 hb2 ⊢
  clear hk hcell hb1
  rw [Int.toNat_natCast] at hcell1
  go_wp2_with fail
  go_ret
  exact ⟨rfl, hC1, hg1⟩

def onceR (code : List UInt8) (st : DrawSt) (n : Int) : Bool × DrawSt := (((belowR code st n).1 == 0), (belowR code st n).2)
set_option maxHeartbeats 400000 in
theorem l1Once_r (p : Nat) (cv : Value) (code : List UInt8) (st : DrawSt) (n : Int) (w : World) (hC : CurS w p cv code st) :
    Calls Tryz.prog 78 #[.pointer (some ⟨p, 0, none⟩), .int .i64 n] w (Drew w p cv code (.bool (onceR code st n).1, (onceR code st n).2)) := by
  go_enter Tryz.func78, Tryz.ntmps78
  go_wp2_with (go_at_call 165; refine (l1Below_r p cv code st n _ hC).mono ?_; rintro e w1 ⟨rfl, hC1, hg1⟩)
  go_ret
  exact ⟨rfl, hC1, hg1⟩

/-- something drawn: what is asked of it, whatever the state of the draw behind it -/
def Drawn (w : World) (p : Nat) (cv : Value) (code : List UInt8) (v : Value) (e : Ending) (w' : World) : Prop := e = .returned v ∧ (∃ st, CurS w' p cv code st) ∧ w.grownBy w' (some p)
theorem grown_cell {w w' : World} {p b o : Nat} {v : Value} (h : w.grownBy w' (some p)) (hc : w.cell? ⟨b, o, none⟩ = some v) (hp : b ≠ p) : w'.cell? ⟨b, o, none⟩ = some v := h.cell hc (by simpa using hp)
theorem grown_frozen {w w' : World} {p b o : Nat} {z : Bool} (h : w.grownBy w' (some p)) (hb : b < w.heap.size) (hp : b ≠ p) (hz : w.frozen? ⟨b, o, none⟩ = z) : w'.frozen? ⟨b, o, none⟩ = z := (World.frozen?_of_block (w := w) (a := ⟨b, o, none⟩) (h.block b hb (by simpa using hp))).trans hz

def pickIntR (code : List UInt8) (st : DrawSt) (zs : List Int) : Int × DrawSt := (zs.getD (belowR code st zs.length).1.toNat 0, (belowR code st zs.length).2)
theorem intCells_new (w : World) (T : TypeId) (zs : List Int) (j : Nat) (hj : j < zs.length) : (w.alloc (.cells (zs.map (Value.int .i64)).toArray T)).cell? ⟨w.heap.size, j, none⟩ = some (.int .i64 (zs.getD j 0)) := by
  rw [World.cell?_alloc_at _ _ _ _ rfl]; simp [List.getD, List.getElem?_eq_getElem hj]
set_option maxHeartbeats 400000 in
theorem l1PickInt_r (p : Nat) (cv : Value) (code : List UInt8) (st : DrawSt) (zs : List Int) (w0 : World) (T : TypeId) (hz : 1 ≤ zs.length) (hz2 : zs.length ≤ 1000) (hp : p < w0.heap.size) (w : World) (hw : w = w0.alloc (.cells (zs.map (Value.int .i64)).toArray T)) (n c : Nat) (hn : n = zs.length) (hC : CurS w p cv code st) :
    Calls Tryz.prog 190 #[.pointer (some ⟨p, 0, none⟩), .slice (some ⟨w0.heap.size, 0, none⟩) n c] w (Drew w p cv code (.int .i64 (pickIntR code st zs).1, (pickIntR code st zs).2)) := by
  subst hn
  have hb := belowR_bd code st zs.length
  have hb2 := hb.2 (by omega)
  have hb1 := hb.1
  clear hb
  have hcell : w.cell? ⟨w0.heap.size, (belowR code st zs.length).1.toNat, none⟩ = some (.int .i64 (pickIntR code st zs).1) := by
    rw [hw]; exact intCells_new w0 T zs _ (by omega)
  clear hw
  have hne : some w0.heap.size ≠ some p := by intro h; injection h with h; omega
  go_enter Tryz.func190, Tryz.ntmps190
  go_wp2_with fail
  refine (l1Below_r p cv code st _ _ hC).mono ?_; rintro e w1 ⟨rfl, hC1, hg1⟩
  have hcell1 := hg1.cell hcell hne
  obtain ⟨k, hk⟩ := Int.eq_ofNat_of_zero_le hb1
  have hK := Lib.hid hk
  dsimp only at *
  rw [hk] at hcell1 hb2 ⊢
  clear hk hcell hb1
  rw [Int.toNat_natCast] at hcell1
  go_wp2_with fail
  go_ret
  exact ⟨rfl, hC1, hg1⟩

theorem l1PickInt_d (p : Nat) (cv : Value) (code : List UInt8) (st : DrawSt) (zs : List Int) (lo hi : Int) (h0 : lo ≤ 0 ∧ 0 ≤ hi) (hm : ∀ x ∈ zs, lo ≤ x ∧ x ≤ hi) (w0 : World) (T : TypeId) (hz : 1 ≤ zs.length) (hz2 : zs.length ≤ 1000) (hp : p < w0.heap.size) (g : Nat) (hg : g = w0.heap.size) (n c : Nat) (hn : n = zs.length) (w : World) (hw : w = w0.alloc (.cells (zs.map (Value.int .i64)).toArray T)) (hC : CurS w p cv code st) :
    Calls Tryz.prog 190 #[.pointer (some ⟨p, 0, none⟩), .slice (some ⟨g, 0, none⟩) n c] w fun e w' => ∃ z : Int, lo ≤ z ∧ z ≤ hi ∧ Drawn w p cv code (.int .i64 z) e w' := by
  subst hg
  refine (l1PickInt_r p cv code st zs w0 T hz hz2 hp w hw n c hn hC).mono ?_
  rintro e w' ⟨rfl, h1, h2⟩
  have hb : lo ≤ (pickIntR code st zs).1 ∧ (pickIntR code st zs).1 ≤ hi := by
    unfold pickIntR
    dsimp only
    rw [List.getD]
    cases h : zs[(belowR code st zs.length).1.toNat]? with
    | none => exact h0
    | some x => exact hm x (List.mem_of_getElem? h)
  exact ⟨_, hb.1, hb.2, rfl, ⟨_, h1⟩, h2⟩
set_option maxHeartbeats 400000 in
/-- .. the list lying anywhere -/
theorem l1PickInt_g (p : Nat) (cv : Value) (code : List UInt8) (st : DrawSt) (zs : List Int) (lo hi : Int) (h0 : lo ≤ 0 ∧ 0 ≤ hi) (hm : ∀ x ∈ zs, lo ≤ x ∧ x ≤ hi) (hz : 1 ≤ zs.length) (hz2 : zs.length ≤ 1000) (g : Nat) (hgp : g ≠ p) (n c : Nat) (hn : n = zs.length) (w : World) (hcells : ∀ j, j < zs.length → w.cell? ⟨g, j, none⟩ = some (.int .i64 (zs.getD j 0))) (hC : CurS w p cv code st) :
    Calls Tryz.prog 190 #[.pointer (some ⟨p, 0, none⟩), .slice (some ⟨g, 0, none⟩) n c] w fun e w' => ∃ z : Int, lo ≤ z ∧ z ≤ hi ∧ Drawn w p cv code (.int .i64 z) e w' := by
  subst hn
  have hb := belowR_bd code st zs.length
  have hb2 := hb.2 (by omega)
  have hb1 := hb.1
  clear hb
  have hcell := hcells (belowR code st zs.length).1.toNat (by omega)
  have hbd : lo ≤ zs.getD (belowR code st zs.length).1.toNat 0 ∧ zs.getD (belowR code st zs.length).1.toNat 0 ≤ hi := by
    rw [List.getD]
    cases h : zs[(belowR code st zs.length).1.toNat]? with
    | none => exact h0
    | some x => exact hm x (List.mem_of_getElem? h)
  have HBD := Lib.hid hbd
  have hne : some g ≠ some p := by intro h; injection h with h; exact hgp h
  clear hcells hbd h0 hm
  go_enter Tryz.func190, Tryz.ntmps190
  go_wp2_with fail
  refine (l1Below_r p cv code st _ _ hC).mono ?_; rintro e w1 ⟨rfl, hC1, hg1⟩
  have hcell1 := hg1.cell hcell hne
  obtain ⟨k, hk⟩ := Int.eq_ofNat_of_zero_le hb1
  dsimp only at *
  rw [hk] at hcell1 hb2 HBD ⊢
  clear hk hcell hb1
  rw [Int.toNat_natCast] at hcell1 HBD
  generalize zs.getD k 0 = y at *
  go_wp2_with fail
  go_ret
  exact ⟨y, HBD.out.1, HBD.out.2, rfl, ⟨_, hC1⟩, hg1⟩

theorem big_any (q : Option Addr) (n c : Nat) (w : World) :
    Calls Tryz.prog 10 #[.slice q n c] w fun e w' => e = .returned (.bool (decide (1048576 < (n : Int)))) ∧ w = w' := by
  go_enter Tryz.func10, Tryz.ntmps10
  go_wp2
  go_ret
  exact ⟨rfl, rfl⟩

end Go.Proofs.YtmecdjincmkofaaGreatDoor
