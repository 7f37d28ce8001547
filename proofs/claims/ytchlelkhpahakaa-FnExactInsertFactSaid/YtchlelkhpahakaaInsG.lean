/-
  Walks and plain lemmas for the laws of this seat: what single Go functions return, for every argument.
-/
import Derived.Test.YtchlelkhpahakaaPlan
import Derived.Test.YtchlelkhpahakaaMInst
import Derived.Test.YtchlelkhpahakaaInsF
namespace Go.Proofs.Ytchlelkhpahakaa
open Go.RowKit

section
variable {P : Program} {ops : Array Oper} {rest : List Oper} {o : Oper} {a : Act} {Q : Exit → Act → World → Prop} {w : World}
/-- an append whose run is known -/
theorem wpList_append_run (hgd : o.guard = none) (s x : Operand) (t t2 : TypeId) (ho : o.op = .call { callee := .builtin .append, args := #[s, x], argTypes := #[t, t2] }) (vs vx u : Value) (w' : World) (hs : a.eval s = vs) (hx : a.eval x = vx)
    (hrun : (Builtin.append_ #[t, t2] o.type #[vs, vx]).run P w = .ok u w') (h : wpList P ops Q rest (a.put o.dst u) w') : wpList P ops Q (o :: rest) a w := by
  refine wpList_plain hgd fun K hK => ?_
  unfold Oper.wp execOp
  simp only [ho, resolve, invoke, builtin, Sem.run_bind, Sem.run_pure, Result.andThen_ok, List.map_toArray, List.map_cons, List.map_nil, hs, hx, hrun]
  exact hK _ _ h
/-- a copy whose run is known -/
theorem wpList_copy_run (hgd : o.guard = none) (s x : Operand) (t t2 : TypeId) (ho : o.op = .call { callee := .builtin .copy, args := #[s, x], argTypes := #[t, t2] }) (vs vx u : Value) (w' : World) (hs : a.eval s = vs) (hx : a.eval x = vx)
    (hrun : (Builtin.copy_ #[t, t2] o.type #[vs, vx]).run P w = .ok u w') (h : wpList P ops Q rest (a.put o.dst u) w') : wpList P ops Q (o :: rest) a w := by
  refine wpList_plain hgd fun K hK => ?_
  unfold Oper.wp execOp
  simp only [ho, resolve, invoke, builtin, Sem.run_bind, Sem.run_pure, Result.andThen_ok, List.map_toArray, List.map_cons, List.map_nil, hs, hx, hrun]
  exact hK _ _ h
theorem exec_copy (s x : Operand) (t t2 : TypeId) (ho : o.op = .call { callee := .builtin .copy, args := #[s, x], argTypes := #[t, t2] }) (vs vx u : Value) (w' : World) (hs : a.eval s = vs) (hx : a.eval x = vx)
    (hrun : (Builtin.copy_ #[t, t2] o.type #[vs, vx]).run P w = .ok u w') : (execOp a.eval o).run P w = .ok (.value u) w' := by
  unfold execOp
  simp only [ho, resolve, invoke, builtin, Sem.run_bind, Sem.run_pure, Result.andThen_ok, List.map_toArray, List.map_cons, List.map_nil, hs, hx, hrun]
end
theorem zc_cells (l : List (Fct × Value)) : (l.flatMap zCells).length = l.length * 2 := flat_len zCells 2 zCells_len l
theorem below_setCells2 {B g : Nat} (hg : B ≤ g) (us : List Value) (o : Nat) (w : World) (hB : B ≤ w.heap.size) : Below B w (w.setCells g o us) := (chg_setCells us o w).below (fun k hk => by rw [hk]; exact hg) hB
set_option maxHeartbeats 3200000 in
set_option maxRecDepth 100000 in
/-- one fact put in at place p of facts that lie in a row of the call's own without room -/
theorem implInsert_any (l : List Fct) (f : Fct) (p : Nat) (hp : p ≤ l.length) (hn : l.length ≤ 1048576) (B C q bv : Nat) (Vs : List Value) (P : Option Addr) (c : Nat) (w : World)
    (hO : FactSO 31 B C (.slice (some ⟨q, 0, none⟩) l.length l.length) Vs l w) (hC : C ≤ w.heap.size) (hU : IntS_own B w.heap.size (.slice P f.vals.length c) f.vals w)
    (hbv : bv < w.heap.size) (hv0 : w.cell? ⟨bv, 0, none⟩ = some (.int .i64 f.rel)) (hv1 : w.cell? ⟨bv, 1, none⟩ = some (.slice P f.vals.length c))
    (hd : ∀ V ∈ Vs, ∀ g, V.ownBlock = some g → (Value.slice P f.vals.length c).ownBlock ≠ some g) (hB : B ≤ w.heap.size) :
    Calls Try.prog 64 #[.slice (some ⟨q, 0, none⟩) l.length l.length, .int .i64 (p : Int), .slice (some ⟨bv, 0, none⟩) 1 1] w fun e w' => ∃ v' Us, e = .returned v' ∧ FactSO 31 B w'.heap.size v' Us (l.take p ++ f :: l.drop p) w' ∧ Chg (fun k => k = q) w w' := by
  obtain ⟨hZ1, hZ2, hZ3, hZ4, hZ5⟩ := hO.toZ
  have hqC : q < C := hO.ins q rfl
  have hVl := hO.len
  have HO := Lib.hid hO
  have HU := Lib.hid hU
  have HD := Lib.hid hd
  generalize hZ : l.zip Vs = Z at *
  have HZ := Lib.hid hZ
  have HZ2 := Lib.hid (fun z hz => IntS_own.mono (hZ2 z hz) (Nat.le_refl B) hC)
  have hone : ∀ z ∈ Z, ∀ u ∈ zCells z, u.oneCell' = true := fun z hz u hu => by
    obtain ⟨A, d, hv, _⟩ := (hZ2 z hz).1.at_
    simp only [zCells, List.mem_cons, List.not_mem_nil, or_false] at hu
    rcases hu with rfl | rfl
    · rfl
    · rw [hv]; rfl
  have HONE := Lib.hid hone
  have h1one : ∀ u ∈ zCells (f, Value.slice P f.vals.length c), u.oneCell' = true := fun u hu => by
    simp only [zCells, List.mem_cons, List.not_mem_nil, or_false] at hu
    rcases hu with rfl | rfl <;> rfl
  have hsrc1 : ∀ j u, (zCells (f, Value.slice P f.vals.length c))[j]? = some u → w.cell? ⟨bv, 0 + j, none⟩ = some u := fun j u hu => by
    have hj : j = 0 ∨ j = 1 := by
      have := (List.getElem?_eq_some_iff.1 hu).1
      simp [zCells] at this; omega
    rcases hj with rfl | rfl
    · simp [zCells] at hu; subst hu; exact hv0
    · simp [zCells] at hu; subst hu; exact hv1
  rw [hZ5] at hZ1
  have HZ1 := Lib.hid hZ1
  obtain ⟨i0, hi, hz0, hz1, hz2⟩ := info_parts infoFct
  have hfin : ∀ (v : Value) (w' : World) (C' : Nat), w'.ownsRow B 31 2 v (l.length + 1) ((Z.take p ++ ([(f, Value.slice P f.vals.length c)] ++ Z.drop p)).flatMap zCells) → Value.inside C' v → (∀ z ∈ Z, IntS_own B C' z.2 z.1.vals w') → IntS_own B C' (.slice P f.vals.length c) f.vals w' →
      FactSO 31 B C' v (Vs.take p ++ ([.slice P f.vals.length c] ++ Vs.drop p)) (l.take p ++ f :: l.drop p) w' := fun v w' C' h1 h2 h3 h4 =>
    FactSO.putAt p HO.out.len (by rw [HZ.out]; exact h1) h2 (by rw [HZ.out]; exact h3) h4 HO.out.dis HD.out
  have HFIN := Lib.hid hfin
  clear hfin
  by_cases hpn : p = l.length
  · subst hpn
    have hap := run_append_own_at (P := Try.prog) w B 41 41 31 i0 _ 2 32 Try.underlying41 hi hz0 hz1 hz2 rfl (by decide) (.slice (some ⟨q, 0, none⟩) l.length l.length) l.length (Z.flatMap zCells) hZ1 ⟨bv, 0, none⟩ 1 1 (zCells (f, Value.slice P f.vals.length c)) rfl (fun j u hu => by rw [addr_add]; exact hsrc1 j u hu) h1one (by unfold maxLen; omega) (by omega) hB
    obtain ⟨v', w', hrun, hrow', hgr, -, hblk⟩ := hap
    have HRUN := Lib.hid hrun
    have hch := chg_grown (q := q) hgr (fun k hk => by cases hk; rfl)
    have hsz := hch.size
    have HRES := Lib.hid (HFIN.out v' w' w'.heap.size (by
      rw [List.take_of_length_le (by omega), List.drop_eq_nil_of_le (by omega), List.append_nil, List.flatMap_append]
      simpa using hrow') (fun g hg => (World.ownsRow.lt hrow' g hg).2) (fun z hz => (IntS_own.mono ⟨(hZ2 z hz).1.chg hch (fun g hg e1 => inner_ne (by decide) HO.out.row (hZ2 z hz) q rfl (by rw [hg, e1])), (hZ2 z hz).2⟩ (Nat.le_refl _) (by omega))) (IntS_own.mono ⟨hU.1.chg hch (fun g hg e1 => inner_ne (by decide) HO.out.row hU q rfl (by rw [hg, e1])), hU.2⟩ (Nat.le_refl _) hsz))
    have HCH := Lib.hid hch
    clear hrun hrow' hgr hblk hch hO hU hd hone h1one hsrc1 hZ1 hZ2 hZ3 hZ4 hZ hv0 hv1 HO HU HD HZ HZ2 HONE HZ1 HFIN hi hz0 hz1 hz2
    go_enter Try.func64, Try.ntmps64
    go_wp2_with (at_builtin; refine wpList_append_run rfl _ _ _ _ rfl _ _ v' w' rfl rfl HRUN.out ?_)
    go_ret
    exact ⟨_, _, rfl, HRES.out, HCH.out⟩
  · have hpl : p < l.length := by omega
    have hold : ((Z.take p).flatMap zCells).length = p * i0.size := by rw [zc_cells, List.length_take, hz1]; congr 1; omega
    have hg2 : (Z.take p).length = p := by rw [List.length_take]; omega
    have hap := run_append_zeros (P := Try.prog) w 41 3 41 31 i0 _ _ Try.underlying41 Try.underlying3 hi hz0 ⟨q, 0, none⟩ p l.length ((Z.take p).flatMap zCells) hold (fun j u hu => by
      have hj := (List.getElem?_eq_some_iff.1 hu).1
      rw [zc_cells, hg2] at hj
      rw [addr_add, Nat.zero_add, World.ownsRow.cellAt hZ1 j (by omega), ← hu]
      conv => lhs; rw [← List.take_append_drop p Z, List.flatMap_append, List.getElem?_append_left (by rw [zc_cells, hg2]; omega)]) (l.length + 1 - p) ((l.length : Int) + 1 - (p : Int)) (by omega) (by omega) (by omega) (by rw [hz2]; omega) (by omega) (by rw [hz2]; exact growslice_fits (by omega) (by omega)) (by rw [hz1]; omega)
    have hpe : p + (l.length + 1 - p) = l.length + 1 := by omega
    rw [hpe] at hap
    obtain ⟨c9, hc9⟩ : ∃ c9, c9 = grownCap w (l.length + 1) l.length 31 := ⟨_, rfl⟩
    rw [← hc9] at hap
    have hge : l.length + 1 ≤ c9 := by rw [hc9]; exact grownCap_ge _ _ _ _
    have hle : c9 ≤ maxLen := by rw [hc9]; exact grownCap_le_maxLen _ _ _ _ (by unfold maxLen; omega)
    obtain ⟨W9, hW9⟩ : ∃ W9, W9 = w.drew.alloc (.cells (((Z.take p).flatMap zCells).toArray ++ Builtin.zeroCells (Value.agg #[.int .i64 0, .slice none 0 0]).cells (l.length + 1 - p) ++ Builtin.zeroCells (Value.agg #[.int .i64 0, .slice none 0 0]).cells (c9 - (l.length + 1))) 31) := ⟨_, rfl⟩
    rw [← hW9] at hap
    have hb9 : Below w.heap.size w W9 := by rw [hW9]; exact ((Below.refl _ _).drew).alloc (Nat.le_refl _) _
    have hsz9 : w.heap.size < W9.heap.size := by rw [hW9]; simp
    have hzc : (Value.agg #[.int .i64 0, .slice none 0 0]).cells = #[.int .i64 0, .slice none 0 0] := rfl
    have hrow9 : W9.ownsRow B 31 2 (.slice (some ⟨w.heap.size, 0, none⟩) (l.length + 1) c9) (l.length + 1) ((Z.take p ++ ([(zeroFct, Value.slice none 0 0)] ++ List.replicate (l.length - p) (zeroFct, Value.slice none 0 0))).flatMap zCells) := by
      have e1 : [(zeroFct, Value.slice none 0 0)] ++ List.replicate (l.length - p) (zeroFct, Value.slice none 0 0) = List.replicate (l.length + 1 - p) (zeroFct, Value.slice none 0 0) := by
        rw [show l.length + 1 - p = (l.length - p) + 1 by omega, List.replicate_succ]; rfl
      rw [e1]
      have hlen2 : ((Z.take p ++ List.replicate (l.length + 1 - p) (zeroFct, Value.slice none 0 0)).flatMap zCells).length = (l.length + 1) * 2 := by rw [zc_cells, List.length_append, hg2, List.length_replicate]; congr 1
      refine ⟨hlen2, .inr ⟨w.heap.size, c9, _, rfl, hB, by rw [hW9]; exact heap_alloc_new _ _, hge, hle, ?_, ?_⟩⟩
      · rw [hzc]
        simp only [Array.size_append, List.size_toArray, size_zeroCells, zc_cells, hg2]
        simp; omega
      · rw [hzc]
        simp only [Array.toList_append, pairZero]
        rw [← List.flatMap_append, List.take_left' hlen2]
    have hcp1 : ∀ ty, (Builtin.copy_ #[41, 41] ty #[.slice (some ⟨w.heap.size, p * 2, none⟩) (l.length + 1 - p) (c9 - p), .slice (some ⟨bv, 0, none⟩) 1 1]).run Try.prog W9 = .ok (goInt 1) (W9.setCells w.heap.size (p * 2) (zCells (f, Value.slice P f.vals.length c))) := fun ty =>
      run_copy_cells (P := Try.prog) W9 _ _ ty 31 2 Try.underlying41 (by rw [hi]; exact congrArg some hz1) w.heap.size (p * 2) _ _ ⟨bv, 0, none⟩ 1 1 1 (by simp [Nat.min_def]; omega) _ rfl (fun j u hu => by rw [addr_add]; exact (hb9.cell (p := ⟨bv, 0 + j, none⟩) hbv).trans (hsrc1 j u hu)) (fun j hj => by
        have hj2 : j < 2 := hj
        rw [World.ownsRow.cellAt hrow9 _ (by omega), List.getElem?_eq_getElem (by rw [hrow9.1]; omega)]; rfl) (World.ownsRow.frozenAt hrow9) h1one
    obtain ⟨W10, hW10⟩ : ∃ W10, W10 = W9.setCells w.heap.size (p * 2) (zCells (f, Value.slice P f.vals.length c)) := ⟨_, rfl⟩
    rw [← hW10] at hcp1
    have hrow10 : W10.ownsRow B 31 2 (.slice (some ⟨w.heap.size, 0, none⟩) (l.length + 1) c9) (l.length + 1) ((Z.take p ++ ([(f, Value.slice P f.vals.length c)] ++ List.replicate (l.length - p) (zeroFct, Value.slice none 0 0))).flatMap zCells) := by
      have h1 := ownsRow_setCells (zCells (f, Value.slice P f.vals.length c)) (p * 2) hrow9
      rw [← hW10] at h1
      have h2 := setMany_flat zCells 2 zCells_len (Z.take p) [(zeroFct, Value.slice none 0 0)] (List.replicate (l.length - p) (zeroFct, Value.slice none 0 0)) [(f, Value.slice P f.vals.length c)] rfl (p * 2) (by rw [hg2])
      rw [List.flatMap_singleton] at h2
      rw [h2] at h1
      exact h1
    have hb10 : Below w.heap.size w W10 := by rw [hW10]; exact hb9.trans (below_setCells2 (Nat.le_refl _) _ _ _ hb9.size)
    have hrow10d : W10.drew.ownsRow B 31 2 (.slice (some ⟨w.heap.size, 0, none⟩) (l.length + 1) c9) (l.length + 1) ((Z.take p ++ ([(f, Value.slice P f.vals.length c)] ++ List.replicate (l.length - p) (zeroFct, Value.slice none 0 0))).flatMap zCells) := hrow10
    have hb10d : Below w.heap.size w W10.drew := hb10.drew
    have hdl : (Z.drop p).length = l.length - p := by rw [List.length_drop]; omega
    have hcp2 : ∀ ty, (Builtin.copy_ #[41, 41] ty #[.slice (some ⟨w.heap.size, (p + 1) * 2, none⟩) (l.length - p) (c9 - (p + 1)), .slice (some ⟨q, p * 2, none⟩) (l.length - p) (l.length - p)]).run Try.prog W10.drew = .ok (goInt (l.length - p : Nat)) (W10.drew.setCells w.heap.size ((p + 1) * 2) ((Z.drop p).flatMap zCells)) := fun ty =>
      run_copy_cells (P := Try.prog) W10.drew _ _ ty 31 2 Try.underlying41 (by rw [hi]; exact congrArg some hz1) w.heap.size ((p + 1) * 2) _ _ ⟨q, p * 2, none⟩ _ _ (l.length - p) (by simp) _ (by rw [zc_cells, hdl]) (fun j u hu => by
        have hj := (List.getElem?_eq_some_iff.1 hu).1
        rw [zc_cells, hdl] at hj
        rw [addr_add]
        refine (hb10d.cell (p := ⟨q, p * 2 + j, none⟩) (Nat.lt_of_lt_of_le hqC hC)).trans ?_
        rw [World.ownsRow.cellAt hZ1 _ (by omega), ← hu]
        conv => lhs; rw [← List.take_append_drop p Z, List.flatMap_append, List.getElem?_append_right (by rw [zc_cells, hg2]; omega), zc_cells, hg2, Nat.add_sub_cancel_left]) (fun j hj => by
        rw [zc_cells, hdl] at hj
        rw [World.ownsRow.cellAt hrow10d _ (by omega), List.getElem?_eq_getElem (by rw [hrow10d.1]; omega)]; rfl) (World.ownsRow.frozenAt hrow10d) (fun u hu => by obtain ⟨z, hz, hu⟩ := List.mem_flatMap.1 hu; exact HONE.out z (List.mem_of_mem_drop hz) u hu)
    obtain ⟨W11, hW11⟩ : ∃ W11, W11 = W10.drew.setCells w.heap.size ((p + 1) * 2) ((Z.drop p).flatMap zCells) := ⟨_, rfl⟩
    rw [← hW11] at hcp2
    have hrow11 : W11.ownsRow B 31 2 (.slice (some ⟨w.heap.size, 0, none⟩) (l.length + 1) c9) (l.length + 1) ((Z.take p ++ ([(f, Value.slice P f.vals.length c)] ++ Z.drop p)).flatMap zCells) := by
      have h1 := ownsRow_setCells ((Z.drop p).flatMap zCells) ((p + 1) * 2) hrow10d
      rw [← hW11] at h1
      have h2 := setMany_flat zCells 2 zCells_len (Z.take p ++ [(f, Value.slice P f.vals.length c)]) (List.replicate (l.length - p) (zeroFct, Value.slice none 0 0)) [] (Z.drop p) (by rw [List.length_replicate, hdl]) ((p + 1) * 2) (by rw [List.length_append, hg2]; rfl)
      rw [List.append_nil, List.append_nil, List.append_assoc, List.append_assoc] at h2
      rw [h2] at h1
      exact h1
    have hb11 : Below w.heap.size w W11 := by rw [hW11]; exact hb10d.trans (below_setCells2 (Nat.le_refl _) _ _ _ hb10d.size)
    have hs11 : w.heap.size < W11.heap.size := (World.ownsRow.lt hrow11 w.heap.size rfl).2
    have HRES := Lib.hid (HFIN.out _ W11 W11.heap.size hrow11 (fun g hg => (World.ownsRow.lt hrow11 g hg).2) (fun z hz => IntS_own.mono (IntS_own.below (HZ2.out z hz) hb11 (Nat.le_refl _)) (Nat.le_refl _) hb11.size) (IntS_own.mono (IntS_own.below hU hb11 (Nat.le_refl _)) (Nat.le_refl _) hb11.size))
    have HCH := Lib.hid (show Chg (fun k => k = q) w W11 from Chg.of_below hb11)
    have HAP := Lib.hid hap
    have HCP1 := Lib.hid hcp1
    have HCP2 := Lib.hid hcp2
    have hd1 : ¬ (l.length - p = 0) := by omega
    have hd2 : ¬ (c9 - p = 0) := by omega
    have hd3 : ¬ (c9 - (p + 1) = 0) := by omega
    have hpe2 : ((p : Int) == (l.length : Int)) = false := beq_eq_false_iff_ne.2 (by omega)
    unfold maxLen at hle
    clear hap hcp1 hcp2 hrow9 hrow10 hrow10d hrow11 hb9 hb10 hb10d hb11 hO hU hd hone h1one hsrc1 hZ1 hZ2 hZ3 hZ4 hZ hv0 hv1 HO HU HD HZ HZ2 HONE HZ1 HFIN hi hz0 hz1 hz2 hold hW9 hW10 hW11 hc9 hzc
    generalize w.heap.size = g2 at *
    go_enter Try.func64, Try.ntmps64
    have hcp1 := HCP1.out
    go_wp2_with (at_builtin; refine wpList_append_run rfl _ _ _ _ rfl _ _ _ _ rfl rfl HAP.out ?_)
    refine wp_region_planL (C := fun w' => ∃ u : Aft W10.heap.size W10, w' = u.now) (.still 0 (.still 1 (.still 2 (.still 3 (.still 4 (.still 5 (.still 6 (.still 7 (.move false 8 .done .none))))))))) (by kernel_rfl) (by kernel_rfl) (by kernel_rfl) (fun _ => ⟨⟨_, (Below.refl _ _).drew⟩, rfl⟩) ?_
    iterate 8
      refine plan_look _ rfl rfl ?_
      go_big_quiet_step (fail)
      refine wpQuiet_nil ?_
    refine plan_value (u := goInt (l.length - p : Nat)) (w' := W11) _ rfl rfl rfl (exec_copy _ _ _ _ rfl _ _ _ _ rfl rfl (HCP2.out _)) (fun e => by cases e) ?_ True.intro
    refine plan_put ?_ (by simp only [Act.put, List.setIfInBounds_toArray, List.set_cons_succ, List.set_cons_zero]; rfl)
    refine plan_done ?_
    go_wp2
    go_ret
    exact ⟨_, _, rfl, HRES.out, HCH.out⟩

end Go.Proofs.Ytchlelkhpahakaa
