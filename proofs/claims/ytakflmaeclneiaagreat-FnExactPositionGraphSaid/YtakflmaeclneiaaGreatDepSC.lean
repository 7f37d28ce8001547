/-
  Walks and plain lemmas for the laws of this seat: what single Go functions return, for every argument.
-/
import Derived.Test.YtakflmaeclneiaaGreatTyDepS
import Derived.Test.YtakflmaeclneiaaGreatAtomSC
import Derived.Test.YtakflmaeclneiaaGreatDepC
import Derived.Test.YtakflmaeclneiaaGreatFmt
namespace Go.Proofs.YtakflmaeclneiaaGreat
open Go.RowKit

set_option maxHeartbeats 1600000 in
theorem eqDependencyS_c (v u : Value) (l : List Dep) (w : World) (hl : DependencyS_at w w.heap.size v l) (hm : DependencyS_at w w.heap.size u l) :
    Calls Tryz.prog 12 #[v, u] w fun e w' => e = .returned (.bool true) ∧ Below w.heap.size w w' := by
  have HL := Lib.hid hl
  have HM := Lib.hid hm
  obtain ⟨A, c, rfl, hlc, hcm⟩ := hl.form
  obtain ⟨A', c', rfl, hlc', hcm'⟩ := hm.form
  clear hl hm
  unfold maxLen at hcm hcm'
  go_enter Tryz.func12, Tryz.ntmps12
  go_wp2
  go_loopw [5] (fun i wr => ∃ k : Nat, k ≤ l.length ∧ i = .int .i64 k ∧ Below w.heap.size w wr) (fun i _ => l.length - (intOf i).toNat)
  case atStart => exact ⟨0, by omega, rfl, Below.refl _ _⟩
  case round =>
    obtain ⟨k, hk, rfl, hW⟩ := hrel
    have hz := hW.size
    by_cases hlt : k < l.length
    · obtain ⟨b, off, V, U, rfl, hb, c0, c1, c2, c3, c4, hV, hU⟩ := DependencyS_at.elem HL.out k hlt
      obtain ⟨b', off', V', U', rfl, hb', d0, d1, d2, d3, d4, hV', hU'⟩ := DependencyS_at.elem HM.out k hlt
      have C0 := Aft.cell hb c0
      have C1 := Aft.cell hb c1
      have C2 := Aft.cell hb c2
      have C3 := Aft.cell hb c3
      have C4 := Aft.cell hb c4
      have D0 := Aft.cell hb' d0
      have D1 := Aft.cell hb' d1
      have D2 := Aft.cell hb' d2
      have D3 := Aft.cell hb' d3
      have D4 := Aft.cell hb' d4
      have hcon := fun (u : Aft w.heap.size w) => eqDependency_c (.agg #[V, U, .bool l[k].egd, .int .i64 l[k].left, .int .i64 l[k].right]) (.agg #[V', U', .bool l[k].egd, .int .i64 l[k].left, .int .i64 l[k].right]) l[k] u.now ⟨V, U, rfl, (hV.below u.is (Nat.le_refl _)).more u.is.size, (hU.below u.is (Nat.le_refl _)).more u.is.size⟩ ⟨V', U', rfl, (hV'.below u.is (Nat.le_refl _)).more u.is.size, (hU'.below u.is (Nat.le_refl _)).more u.is.size⟩
      clear c0 c1 c2 c3 c4 d0 d1 d2 d3 d4
      go_wp2
      refine wp_region_aft hW (by kernel_rfl) (by kernel_rfl) ?_
      repeat (go_big_quiet_step (((go_at_call 31; exact calls_aft (Nat.le_refl _) (hcon _)))))
      refine wpQuiet_nil ?_
      refine aft_end ?_
      intro w1 hh
      go_wp2
      go_roundw
      case rel => exact ⟨k + 1, by omega, by go_num, hh⟩
      case measure => simp [intOf]; omega
    · obtain rfl : k = l.length := by omega
      go_wp2
      go_ret
      exact ⟨rfl, hW⟩

/-- the first i dependencies marked, the others as they were -/
def dmkTo (k : Nat) (l : List Dep) (i : Nat) : List Dep := (DependencyS_mk k l).take i ++ l.drop i
theorem dmkTo_len (k : Nat) (l : List Dep) (i : Nat) (h : i ≤ l.length) : (dmkTo k l i).length = l.length := by unfold dmkTo; rw [List.length_append, List.length_take, DependencyS_mk_len, List.length_drop]; omega
theorem dmkTo_at (k : Nat) (l : List Dep) (i : Nat) (h : i < l.length) (h' : i < (dmkTo k l i).length) : (dmkTo k l i)[i] = l[i] := by
  have e : ((DependencyS_mk k l).take i).length = i := by rw [List.length_take, DependencyS_mk_len]; omega
  simp only [dmkTo]
  rw [List.getElem_append_right (by omega)]
  simp [e]
theorem dmkTo_succ (k : Nat) (l : List Dep) (i : Nat) (h : i < l.length) : (dmkTo k l i).set i (markDepAt k l i) = dmkTo k l (i + 1) := by
  have e : ((DependencyS_mk k l).take i).length = i := by rw [List.length_take, DependencyS_mk_len]; omega
  unfold dmkTo
  rw [List.set_append_right _ _ (by omega), e, Nat.sub_self, List.drop_eq_getElem_cons h, List.set_cons_zero, List.take_succ_eq_append_getElem (by rw [DependencyS_mk_len]; exact h), DependencyS_mk_at, List.append_assoc]
  rfl
set_option maxHeartbeats 3200000 in
set_option maxRecDepth 100000 in
theorem markDependencyS_any (B C : Nat) (v : Value) (Xs : List DepX) (l : List Dep) (k : Nat) (w : World) (hS : DependencySO 51 B C v Xs l w) (hn : DependencyS_sz l ≤ 1048576) (hk : k ≤ 10000000000) :
    Calls Tryz.prog 14 #[v, .int .i64 (k : Int)] w fun e w' => e = .returned (.int .i64 ((k + DependencyS_cnt l : Nat) : Int)) ∧ DependencySO 51 B C v Xs (DependencyS_mk k l) w' ∧ Chg (dFootS v Xs) w w' := by
  obtain ⟨A, c, rfl, hc1, hc2⟩ := (hS.at_ (Nat.le_refl _)).form
  unfold maxLen at hc2
  have hn1 : l.length + depsLen l ≤ 1048576 := hn
  have hct := depsCnt_sz l
  go_enter Tryz.func14, Tryz.ntmps14
  go_wp2
  go_loopw [1, 5] (fun x j wr => ∃ i : Nat, i ≤ l.length ∧ j = .int .i64 (i : Int) ∧ x = .int .i64 ((k + depsCnt (l.take i) : Nat) : Int) ∧ DependencySO 51 B C (.slice A l.length c) Xs (dmkTo k l i) wr ∧ Chg (dFootS (.slice A l.length c) Xs) w wr) (fun _ j _ => l.length - (intOf j).toNat)
  case atStart => exact ⟨0, by omega, rfl, by simp [depsCnt], by simpa [dmkTo] using hS, Chg.refl _ _⟩
  case round =>
    clear hS
    obtain ⟨i, hi, rfl, rfl, hO, hW⟩ := hrel
    have hml := dmkTo_len k l i hi
    by_cases hlt : i < l.length
    · have hil : i < (dmkTo k l i).length := by omega
      have hiv : i < Xs.length := by rw [hO.len]; exact hil
      have hv1 := depsCnt_take l i hlt
      have hv2 := depsCnt_le l (i + 1)
      have hrow := hO.row
      rw [dZip_len (by rw [List.length_map, hO.len]), hml] at hrow
      obtain ⟨g, cap, hv, hg0, hg1⟩ := World.ownsRow.form hrow (by omega)
      simp only [Value.slice.injEq] at hv
      obtain ⟨rfl, -, rfl⟩ := hv
      clear hrow
      have HML := Lib.hid hml
      obtain ⟨d0, d1, -⟩ := hO.cells hml i hil hiv
      have hel := hO.el i hil hiv
      rw [dmkTo_at k l i hlt hil] at hel
      have hgX := dFoot_ne (by decide) (by decide) hO.row hel g rfl
      have hsz := depsLen_take l i hlt
      have hsz2 := depsLen_le l (i + 1)
      have hs1 : AtomS_sz l[i].body ≤ 1048576 := by unfold Dependency_sz at hsz; omega
      have hs2 : AtomS_sz l[i].head ≤ 1048576 := by unfold Dependency_sz at hsz; omega
      obtain ⟨K, hK⟩ : ∃ K, K = k + depsCnt (l.take i) := ⟨_, rfl⟩
      have hcb := AtomS_cnt_le l[i].body
      have hch := AtomS_cnt_le l[i].head
      have hKb : K ≤ 20000000000 := by omega
      obtain ⟨K1, hK1⟩ : ∃ K1, K1 = K + AtomS_cnt l[i].body := ⟨_, rfl⟩
      obtain ⟨K2, hK2⟩ : ∃ K2, K2 = K1 + AtomS_cnt l[i].head := ⟨_, rfl⟩
      have hK2b : K2 ≤ 30000000000 := by omega
      have HKs := Lib.hid (show K2 + 3 = k + depsCnt (l.take (i + 1)) by rw [hv1]; unfold depCnt; omega)
      have HKm := Lib.hid (show (⟨AtomS_mk K l[i].body, AtomS_mk K1 l[i].head, (((K2 : Int) % 3) == 0), ((K2 + 1 : Nat) : Int), ((K2 + 2 : Nat) : Int)⟩ : Dep) = markDepAt k l i by
        unfold markDepAt markDep
        rw [show l.getD i default = l[i] by simp [List.getD, List.getElem?_eq_getElem hlt], ← hK, ← hK1, ← hK2])
      have hm1 := markAtomS_any B C Xs[i].1.1 Xs[i].1.2 l[i].body K wr hel.1 hs1 (by omega)
      rw [← hK1] at hm1
      have HEL := Lib.hid hel
      have HO := Lib.hid hO
      have HGX := Lib.hid hgX
      have HK1 := Lib.hid hK1
      have HK2 := Lib.hid hK2
      rw [← hK]
      clear hel hO hgX hsz hsz2 hcb hch hK hK1 hK2 hv1 hv2 hct
      go_wp2_with fail
      refine hm1.mono ?_
      rintro e w1 ⟨rfl, hB1, hC1⟩
      have hm2 := markAtomS_any B C Xs[i].2.1 Xs[i].2.2 l[i].head K1 w1 (HEL.out.2.1.chgS hC1 (fun q hq hq2 => HEL.out.2.2 q hq2 hq)) hs2 (by have := HK2.out; omega)
      rw [← HK2.out] at hm2
      have d1' := (hC1.cell (b := g) (o := i * 5 + 1) hg1 (fun hq => HGX.out (.inl hq))).trans d1
      clear hm1 d0 d1
      have HB1 := Lib.hid hB1
      have HC1 := Lib.hid hC1
      have hg1' : g < w1.heap.size := Nat.lt_of_lt_of_le hg1 hC1.size
      clear hB1 hC1
      go_wp2_with fail
      refine hm2.mono ?_
      rintro e w2 ⟨rfl, hB2, hC2⟩
      have hCC : Chg (dFoot Xs[i]) wr w2 := (HC1.out.mono fun q hq => .inl hq).trans (hC2.mono fun q hq => .inr hq)
      have hX : DepOwn B C Xs[i] ⟨AtomS_mk K l[i].body, AtomS_mk K1 l[i].head, l[i].egd, l[i].left, l[i].right⟩ w2 := ⟨HB1.out.chgS hC2 (fun q hq => HEL.out.2.2 q hq), hB2, HEL.out.2.2⟩
      have hdm := dmkTo_at k l i hlt (by rw [HML.out]; exact hlt)
      have H2 := Lib.hid (DependencySO.setEl (e := 51) (by decide) (by decide) HO.out i (by rw [HML.out]; exact hlt) hiv ⟨AtomS_mk K l[i].body, AtomS_mk K1 l[i].head, l[i].egd, l[i].left, l[i].right⟩ (by rw [hdm]) (by rw [hdm]) (by rw [hdm]) hX hCC)
      have hsl : ((dmkTo k l i).set i ⟨AtomS_mk K l[i].body, AtomS_mk K1 l[i].head, l[i].egd, l[i].left, l[i].right⟩).length = l.length := by rw [List.length_set, HML.out]
      obtain ⟨-, -, d2, d3, d4⟩ := H2.out.cells hsl i (by rw [hsl]; exact hlt) hiv
      have hfz := H2.out.frozen hsl
      have HF := Lib.hid (DependencySO.setFlags (e := 51) (by decide) (by decide) H2.out hsl i (by rw [hsl]; exact hlt) hiv (((K2 : Int) % 3) == 0) ((K2 + 1 : Nat) : Int) ((K2 + 2 : Nat) : Int))
      have hcF : Chg (dFootS (.slice (some ⟨g, 0, none⟩) l.length c) Xs) w w2 := hW.trans (hCC.mono fun q hq => .inr ⟨Xs[i], List.getElem_mem hiv, hq⟩)
      have HCF := Lib.hid ((((hcF.setCell (p := ⟨g, i * 5 + 2, none⟩) (.inl rfl) (.bool (((K2 : Int) % 3) == 0))).setCell (p := ⟨g, i * 5 + 3, none⟩) (.inl rfl) (.int .i64 ((K2 + 1 : Nat) : Int))).setCell (p := ⟨g, i * 5 + 4, none⟩) (.inl rfl) (.int .i64 ((K2 + 2 : Nat) : Int))))
      rw [List.getElem_set_self] at d2 d3 d4
      clear hm2 hCC hX hdm hcF HB1 HC1 hC2 hB2 d1'
      go_wp2
      go_roundw
      case rel =>
        have e1 : ((K2 + 1 : Nat) : Int) = (K2 : Int) + 1 := by omega
        have e2 : ((K2 + 2 : Nat) : Int) = (K2 : Int) + 1 + 1 := by omega
        refine ⟨i + 1, by omega, by go_num, by rw [← HKs.out]; go_num, ?_, ?_⟩
        · have := HF.out
          rw [List.getElem_set_self, List.set_set] at this
          simp only at this
          rw [HKm.out, dmkTo_succ k l i hlt, e1, e2] at this
          exact this
        · have := HCF.out
          rw [e1, e2] at this
          exact this
      case measure => simp [intOf]; omega
    · obtain rfl : i = l.length := by omega
      have hO' : DependencySO 51 B C (.slice A l.length c) Xs (DependencyS_mk k l) wr := by
        have := hO
        unfold dmkTo at this
        rwa [List.drop_length, List.append_nil, List.take_of_length_le (by rw [DependencyS_mk_len]; exact Nat.le_refl _)] at this
      clear hO
      have he := Lib.hid (show k + depsCnt (l.take l.length) = k + DependencyS_cnt l by rw [List.take_length]; rfl)
      go_wp2
      go_ret
      exact ⟨ret_int (by rw [he.out]), hO', hW⟩
theorem markDependencyS_c (B C : Nat) (v : Value) (l : List Dep) (k : Nat) (w : World) (h : DependencyS_own B C v l w) (hn : DependencyS_sz l ≤ 1048576) (_ : 1 ≤ k) (hk : k ≤ 1000000000) :
    Calls Tryz.prog 14 #[v, .int .i64 (k : Int)] w fun e w' => e = .returned (.int .i64 ((k + DependencyS_cnt l : Nat) : Int)) ∧ DependencyS_own B C v (DependencyS_mk k l) w' ∧ Chg (Mid B C) w w' := by
  obtain ⟨Xs, hS⟩ := h
  exact (markDependencyS_any B C v Xs l k w hS hn (by omega)).mono fun _ _ ⟨he, ho, hc⟩ => ⟨he, ⟨Xs, ho⟩, hc.mono hS.foot⟩

set_option maxHeartbeats 800000 in
theorem szDependencyS_c (v : Value) (l : List Dep) (left : Int) (w : World) (hl : DependencyS_at w w.heap.size v l) (hw : DependencyS_wf l) (h0 : 0 ≤ left) (h1 : left ≤ 1048576) :
    Calls Tryz.prog 5 #[v, .int .i64 left] w fun e w' => e = .returned (.int .i64 (szLeft left (DependencyS_sz l : Nat))) ∧ Below w.heap.size w w' := by
  have HL := Lib.hid hl
  obtain ⟨A, c, rfl, hlc, hcm⟩ := hl.form
  clear hl
  unfold maxLen at hcm
  have hsz : ((DependencyS_sz l : Nat) : Int) = (l.length : Int) + (depsLen l : Nat) := by unfold DependencyS_sz; omega
  rw [hsz]
  clear hsz
  by_cases hn : (l.length : Int) ≤ left
  · go_enter Tryz.func5, Tryz.ntmps5
    go_wp2
    go_loopw [1, 5] (fun lf i wr => ∃ k : Nat, k ≤ l.length ∧ i = .int .i64 k ∧ lf = .int .i64 (left - l.length - (depsLen (l.take k) : Nat)) ∧ (l.length : Int) + (depsLen (l.take k) : Nat) ≤ left ∧ Below w.heap.size w wr) (fun _ i _ => l.length - (intOf i).toNat)
    case atStart => exact ⟨0, by omega, rfl, by simp [depsLen], by simp [depsLen]; omega, Below.refl _ _⟩
    case round =>
      obtain ⟨k, hk, rfl, rfl, hle, hW⟩ := hrel
      have hz := hW.size
      by_cases hlt : k < l.length
      · obtain ⟨b, off, V, U, rfl, hb, c0, c1, c2, c3, c4, hV, hU⟩ := DependencyS_at.elem (HL.out.below hW (Nat.le_refl _)) k hlt
        have HT := Lib.hid (depsLen_take l k hlt)
        have HLE := Lib.hid (depsLen_le l (k + 1))
        generalize depsLen (l.take k) = q at *
        have hq : 0 ≤ left - l.length - (q : Int) := by omega
        have hat : Dependency_at wr wr.heap.size (.agg #[V, U, .bool l[k].egd, .int .i64 l[k].left, .int .i64 l[k].right]) l[k] := ⟨V, U, rfl, hV.more hz, hU.more hz⟩
        have hsz := szDependency_c _ l[k] (left - l.length - (q : Int)) wr hat (hw k hlt) hq (by omega)
        clear hat
        by_cases hfit : ((Dependency_sz l[k] : Nat) : Int) ≤ left - l.length - (q : Int)
        · rw [szLeft_yes hfit] at hsz
          have e1 : left - l.length - (q : Int) - (Dependency_sz l[k] : Nat) = left - l.length - ((q + Dependency_sz l[k] : Nat) : Int) := by omega
          rw [e1] at hsz
          clear e1
          go_wp2_with (go_at_call 18; refine hsz.mono ?_; rintro e w1 ⟨rfl, hb1⟩)
          go_roundw
          case rel => exact ⟨k + 1, by omega, by go_num, by rw [HT.out]; go_num, by rw [HT.out]; omega, hW.trans (hb1.mono hz)⟩
          case measure => simp [intOf]; omega
        · rw [szLeft_no hfit] at hsz
          have e2 := Lib.hid (szLeft_no (left := left) (n := (l.length : Int) + (depsLen l : Nat)) (by have := HT.out; have := HLE.out; omega))
          go_wp2_with (go_at_call 18; refine hsz.mono ?_; rintro e w1 ⟨rfl, hb1⟩)
          go_ret
          exact ⟨ret_int e2.out.symm, hW.trans (hb1.mono hz)⟩
      · obtain rfl : k = l.length := by omega
        have HT := Lib.hid (congrArg depsLen (List.take_length (l := l)))
        generalize depsLen (l.take l.length) = q at *
        have e2 := Lib.hid (szLeft_yes (left := left) (n := (l.length : Int) + (depsLen l : Nat)) (by have := HT.out; omega))
        go_wp2
        go_ret
        exact ⟨ret_int (by rw [e2.out]; have := HT.out; omega), hW⟩
  · have e2 := Lib.hid (szLeft_no (left := left) (n := (l.length : Int) + (depsLen l : Nat)) (by omega))
    go_enter Tryz.func5, Tryz.ntmps5
    go_wp2
    go_ret
    exact ⟨ret_int e2.out.symm, Below.refl _ _⟩

set_option maxHeartbeats 1600000 in
theorem toDependencyS_c (v : Value) (l : List Dep) (w : World) (hl : DependencyS_at w w.heap.size v l) (hn : DependencyS_sz l ≤ 1048576) :
    Calls Tryz.prog 8 #[v] w fun e w' => ∃ u, e = .returned u ∧ DependencyS_own w.heap.size w'.heap.size u l w' ∧ Below w.heap.size w w' := by
  have HL := Lib.hid hl
  obtain ⟨A, c, rfl, hlc, hcm⟩ := hl.form
  clear hl
  unfold maxLen at hcm
  have hn1 : l.length ≤ 1048576 := by unfold DependencyS_sz at hn; omega
  have hel : ∀ k (h : k < l.length), Dependency_sz l[k] ≤ 1048576 := fun k h => by
    have h1 := depsLen_take l k h
    have h2 := depsLen_le l (k + 1)
    unfold DependencyS_sz at hn; omega
  have hmk := fun w => make_deps w l.length hn1
  go_enter Tryz.func8, Tryz.ntmps8
  go_wp2
  clear hmk
  go_loopw [4] (fun i wr => ∃ k : Nat, ∃ Xs, k ≤ l.length ∧ i = .int .i64 k ∧ DependencySO 51 w.heap.size wr.heap.size (.slice (some ⟨w.heap.size, 0, none⟩) l.length l.length) Xs (l.take k ++ List.replicate (l.length - k) zeroDep) wr ∧ Below w.heap.size w wr) (fun i _ => l.length - (intOf i).toNat)
  case atStart => exact ⟨0, _, by omega, rfl, (DependencySO.made w l.length hn1).mono (Nat.le_refl _) (by simp), (Below.refl _ _).alloc (Nat.le_refl _) _⟩
  case round =>
    obtain ⟨k, Xs, hk, rfl, hO, hW⟩ := hrel
    have hz := hW.size
    by_cases hlt : k < l.length
    · obtain ⟨b, off, V, U, rfl, hb, c0, c1, c2, c3, c4, hV, hU⟩ := DependencyS_at.elem (HL.out.below hW (Nat.le_refl _)) k hlt
      have hcon := toDependency_c (.agg #[V, U, .bool l[k].egd, .int .i64 l[k].left, .int .i64 l[k].right]) l[k] wr ⟨V, U, rfl, hV.more hz, hU.more hz⟩ (hel k hlt)
      have hlen : (l.take k ++ List.replicate (l.length - k) zeroDep).length = l.length := by simp; omega
      have hkl : k < (l.take k ++ List.replicate (l.length - k) zeroDep).length := by omega
      have hkv : k < Xs.length := by rw [hO.len]; exact hkl
      have HLen := Lib.hid hlen
      have HO := Lib.hid hO
      clear hlen hO
      go_wp2_with fail
      refine hcon.mono ?_
      rintro e w1 ⟨u, rfl, hu, hb1⟩
      have hz1 := hb1.size
      obtain ⟨Y1, Y2, Vs1, Vs2, rfl, ho1, ho2, hne⟩ := hu
      obtain ⟨P1, p1, rfl, -, -⟩ := (ho1.at_ (Nat.le_refl _)).form
      obtain ⟨P2, p2, rfl, -, -⟩ := (ho2.at_ (Nat.le_refl _)).form
      have hX : DepOwn wr.heap.size w1.heap.size ((.slice P1 l[k].body.length p1, Vs1), (.slice P2 l[k].head.length p2, Vs2)) l[k] w1 := ⟨ho1, ho2, hne⟩
      have hO1 := HO.out.below hb1 (Nat.le_refl _)
      obtain ⟨d0, d1, d2, d3, d4⟩ := hO1.cells HLen.out k hkl hkv
      have hfz := hO1.frozen HLen.out
      have HS := Lib.hid (DependencySO.set (e := 51) (by decide) (by decide) (hO1.mono (Nat.le_refl _) hz1) HLen.out k hlt l[k] _ (hX.mono hz (Nat.le_refl _)) (fun i hi _ q hq1 hq2 => by
        have h1 := (hX.foot q hq2).1
        have h2 := ((HO.out.el i (by have := HO.out.len; omega) hi).foot q hq1).2
        omega))
      clear hO1 hX ho1 ho2 hne
      go_wp2
      go_roundw
      case rel => exact ⟨k + 1, _, by omega, by go_num, by rw [← take_zero_dep l k hlt]; exact HS.out.mono (Nat.le_refl _) (by simp [World.setCell]), (((((hW.trans (hb1.mono hz)).setCell (p := ⟨w.heap.size, k * 5, none⟩) (Nat.le_refl _) _).setCell (p := ⟨w.heap.size, k * 5 + 1, none⟩) (Nat.le_refl _) _).setCell (p := ⟨w.heap.size, k * 5 + 2, none⟩) (Nat.le_refl _) _).setCell (p := ⟨w.heap.size, k * 5 + 3, none⟩) (Nat.le_refl _) _).setCell (p := ⟨w.heap.size, k * 5 + 4, none⟩) (Nat.le_refl _) _⟩
      case measure => simp [intOf]; omega
    · obtain rfl : k = l.length := by omega
      have hO' : DependencySO 51 w.heap.size wr.heap.size (.slice (some ⟨w.heap.size, 0, none⟩) l.length l.length) Xs l wr := by simpa using hO
      clear hO
      go_wp2
      go_ret
      exact ⟨_, rfl, ⟨Xs, hO'⟩, hW⟩

end Go.Proofs.YtakflmaeclneiaaGreat
