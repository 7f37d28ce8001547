/-
  Walks and plain lemmas for the laws of this seat: what single Go functions return, for every argument.
-/
import Derived.Test.YtmecdjincmkofaaGreatDoorBase
import Derived.Test.YtmecdjincmkofaaGreatDoorMem
import Derived.Test.YtmecdjincmkofaaGreatDoorInts
import Derived.Test.YtmecdjincmkofaaGreatDoorNum
import Derived.Test.YtmecdjincmkofaaGreatDoorTyInst
import Derived.Test.YtmecdjincmkofaaGreatDoorPlan
namespace Go.Proofs.YtmecdjincmkofaaGreatDoor
open Go.RowKit

theorem SliceAt.aft {α : Type} {f : α → List Value} {w0 W : World} {v : Value} {l : List α} (h : SliceAt f w0 w0.heap.size v l) (hb : Below w0.heap.size w0 W) (u : Aft W.heap.size W) : SliceAt f u.now u.now.heap.size v l :=
  (h.below (hb.trans (u.is.mono hb.size)) (Nat.le_refl _)).more (hb.trans (u.is.mono hb.size)).size

/-- append of many elements, read from a slice; of these alone it is asked that each cell be one cell -/
theorem wp_own_appsM {P : Program} {α : Type} (f : α → List Value) (k bytes : Nat) (hf : ∀ x, (f x).length = k) {ops : Array Oper} {rest : List Oper} {o : Oper} {a : Act} {Q : Exit → Act → World → Prop} {B : Nat} {v : Value} {l r : List α} {w : World} {e t : TypeId} {z : Value}
    (hone : ∀ x ∈ r, ∀ u ∈ f x, u.oneCell' = true) (ht : P.underlying t = some (.slice e)) (hinfo : (P.info? e).map (fun i => (i.zero, i.size, i.bytes)) = some (some z, k, bytes)) (hzs : z.cells.size = k) (hk : 0 < k)
    (hO : w.ownsRow B e k v l.length (l.flatMap f)) (hgd : o.guard = none) (s x : Operand) (ho : o.op = .call { callee := .builtin .append, args := #[s, x], argTypes := #[t, t] }) (hs : a.eval s = v) (b off m c : Nat) (hx : a.eval x = .slice (some ⟨b, off, none⟩) m c) (hm : r.length = m) (hr : ∀ j u, (r.flatMap f)[j]? = some u → w.cell? ⟨b, off + j, none⟩ = some u)
    (hlen : (l.length + r.length) * bytes ≤ 140737488355328) (hl2 : l.length + r.length < 140737488355328) (hbase : B ≤ w.heap.size)
    (h : ∀ v' w', w'.ownsRow B e k v' (l ++ r).length ((l ++ r).flatMap f) → Below B w w' → w.grownBy w' v.ownBlock → (v'.ownBlock = v.ownBlock ∨ v'.ownBlock = some w.heap.size) → wpList P ops Q rest (a.put o.dst v') w') :
    wpList P ops Q (o :: rest) a w := by
  subst hm
  obtain ⟨i0, hi, hz0, hz1, hz2⟩ := info_parts hinfo
  have hcell : ∀ j u, (r.flatMap f)[j]? = some u → w.cell? ((⟨b, off, none⟩ : Addr).add j) = some u := by
    intro j u hu
    have e1 : (⟨b, off, none⟩ : Addr).add j = ⟨b, off + j, none⟩ := by unfold Addr.add; split <;> simp_all
    rw [e1]; exact hr j u hu
  refine wpList_append_own_at _ hgd s x t ho B e i0 z k bytes ht hi hz0 hz1 hz2 hzs hk v l.length (l.flatMap f) hs hO ⟨b, off, none⟩ r.length c (r.flatMap f) hx (flat_len f k hf r) hcell (fun u hu => by obtain ⟨y, hy1, hy⟩ := List.mem_flatMap.1 hu; exact hone y hy1 u hy) (by unfold maxLen; omega) hlen hbase ?_
  intro v' w' h2 h3 _ h5
  refine h v' w' ?_ ((Below.refl B w).grown h3 hbase (fun g hg => (hO.lt g hg).1)) h3 h5
  rw [List.length_append, List.flatMap_append]
  exact h2

def FctSmall (x : Fct) : Prop := (-1 ≤ x.rel ∧ x.rel ≤ 5) ∧ x.vals.length ≤ 3 ∧ ∀ z ∈ x.vals, -41 ≤ z ∧ z ≤ 10

set_option maxHeartbeats 1600000 in
theorem specInts_any (v u : Value) (a b : List Int) (w : World) (hl : IntsAt w w.heap.size v a) (hm : IntsAt w w.heap.size u b) :
    Calls Tryz.prog 152 #[v, u] w fun e w' => e = .returned (.int .i64 (cmpInts a b)) ∧ Below w.heap.size w w' := by
  have HL := Lib.hid hl
  have HM := Lib.hid hm
  obtain ⟨A, c, rfl, hlc, hcm, -⟩ := hl
  obtain ⟨A', c', rfl, hlc', hcm', -⟩ := hm
  unfold maxLen at hcm hcm'
  go_enter Tryz.func152, Tryz.ntmps152
  go_wp2
  go_loopw [5] (fun i wr => ∃ k : Nat, k ≤ a.length ∧ k ≤ b.length ∧ i = .int .i64 k ∧ Hid (CmpTo a b k) ∧ Below w.heap.size w wr) (fun i _ => a.length - (intOf i).toNat)
  case atStart => exact ⟨0, by omega, by omega, rfl, Lib.hid (CmpTo.zero a b), Below.refl _ _⟩
  case round =>
    obtain ⟨k, hk, hk', rfl, HT, hW⟩ := hrel
    by_cases hlt : k < a.length ∧ k < b.length
    · obtain ⟨hlt, hlt'⟩ := hlt
      obtain ⟨p, off, rfl, hb, c0⟩ := IntsAt.elem HL.out k hlt
      obtain ⟨p', off', rfl, hb', d0⟩ := IntsAt.elem HM.out k hlt'
      have C0 := Aft.cell hb c0
      have D0 := Aft.cell hb' d0
      clear c0 d0
      by_cases h1 : a[k] < b[k]
      · have HV := Lib.hid (HT.out.less hlt hlt' h1)
        have hd : decide (a[k] < b[k]) = true := decide_eq_true h1
        clear h1
        go_wp2
        refine wp_region_aft hW (by kernel_rfl) (by kernel_rfl) ?_
        repeat (go_big_quiet_step (fail))
        refine wpQuiet_nil ?_
        refine aft_end ?_
        intro w1 hh
        go_wp2
        go_ret
        exact ⟨ret_int HV.out.symm, hh⟩
      · have hd : decide (a[k] < b[k]) = false := decide_eq_false h1
        by_cases h2 : b[k] < a[k]
        · have HV := Lib.hid (HT.out.more hlt hlt' h2)
          have hd2 : decide (b[k] < a[k]) = true := decide_eq_true h2
          clear h1 h2
          go_wp2
          refine wp_region_aft hW (by kernel_rfl) (by kernel_rfl) ?_
          repeat (go_big_quiet_step (fail))
          refine wpQuiet_nil ?_
          refine aft_end ?_
          intro w1 hh
          go_wp2
          refine wp_region_aft hh (by kernel_rfl) (by kernel_rfl) ?_
          repeat (go_big_quiet_step (fail))
          refine wpQuiet_nil ?_
          refine aft_end ?_
          intro w2 hh2
          go_wp2
          go_ret
          exact ⟨ret_int HV.out.symm, hh2⟩
        · have HV := Lib.hid (HT.out.next hlt hlt' h1 h2)
          have hd2 : decide (b[k] < a[k]) = false := decide_eq_false h2
          clear h1 h2
          go_wp2
          refine wp_region_aft hW (by kernel_rfl) (by kernel_rfl) ?_
          repeat (go_big_quiet_step (fail))
          refine wpQuiet_nil ?_
          refine aft_end ?_
          intro w1 hh
          go_wp2
          refine wp_region_aft hh (by kernel_rfl) (by kernel_rfl) ?_
          repeat (go_big_quiet_step (fail))
          refine wpQuiet_nil ?_
          refine aft_end ?_
          intro w2 hh2
          go_wp2
          go_roundw
          case rel => exact ⟨k + 1, by omega, by omega, by go_num, HV, hh2⟩
          case measure => simp [intOf]; omega
    · have HV := Lib.hid (HT.out.done (by omega) hk hk')
      by_cases e1 : a.length < b.length
      · have HV' := Lib.hid (HV.out.trans (if_pos e1))
        by_cases hka : k < a.length
        · omega
        all_goals
          go_wp2
          go_ret
          exact ⟨ret_int HV'.out.symm, hW⟩
      · by_cases e2 : b.length < a.length
        · have HV' := Lib.hid (HV.out.trans ((if_neg e1).trans (if_pos e2)))
          have hka : k < a.length := by omega
          have hkb : ¬ k < b.length := by omega
          go_wp2
          go_ret
          exact ⟨ret_int HV'.out.symm, hW⟩
        · have HV' := Lib.hid (HV.out.trans ((if_neg e1).trans (if_neg e2)))
          have hka : ¬ k < a.length := by omega
          have hkb : ¬ k < b.length := by omega
          go_wp2
          go_ret
          exact ⟨ret_int HV'.out.symm, hW⟩

set_option maxHeartbeats 1600000 in
set_option maxRecDepth 100000 in
theorem specL5Fact_any (v : Value) (x : Fct) (w : World) (h : Fact_at w w.heap.size v x) (hn : Fact_sz x ≤ 1048576) :
    Calls Tryz.prog 177 #[v] w fun e w' => ∃ u, e = .returned u ∧ Fact_own w.heap.size w'.heap.size u x w' ∧ Below w.heap.size w w' := by
  obtain ⟨V, rfl, hV⟩ := h
  have HV := Lib.hid hV
  obtain ⟨A, c, rfl, hlc, hcm, -, hA⟩ := hV
  unfold Fact_sz at hn
  unfold maxLen at hcm
  have hE : Below w.heap.size w ((w.alloc (.cells #[.int .i64 x.rel, .slice A x.vals.length c] 57)).alloc (.cells #[.int .i64 0, .slice none 0 0] 57)) := below_more (below_more (Below.refl _ _) _) _
  have hEz : w.heap.size + 2 = ((w.alloc (.cells #[.int .i64 x.rel, .slice A x.vals.length c] 57)).alloc (.cells #[.int .i64 0, .slice none 0 0] 57)).heap.size := by simp
  have G0 := Aft.cell (B := ((w.alloc (.cells #[.int .i64 x.rel, .slice A x.vals.length c] 57)).alloc (.cells #[.int .i64 0, .slice none 0 0] 57)).heap.size) (by omega) (show ((w.alloc (.cells #[.int .i64 x.rel, .slice A x.vals.length c] 57)).alloc (.cells #[.int .i64 0, .slice none 0 0] 57)).cell? ⟨w.heap.size, 0, none⟩ = some (.int .i64 x.rel) by simp [go_sem])
  have G1 := Aft.cell (B := ((w.alloc (.cells #[.int .i64 x.rel, .slice A x.vals.length c] 57)).alloc (.cells #[.int .i64 0, .slice none 0 0] 57)).heap.size) (by omega) (show ((w.alloc (.cells #[.int .i64 x.rel, .slice A x.vals.length c] 57)).alloc (.cells #[.int .i64 0, .slice none 0 0] 57)).cell? ⟨w.heap.size, 1, none⟩ = some (.slice A x.vals.length c) by simp [go_sem])
  have HB1 := Lib.hid (show Below ((w.alloc (.cells #[.int .i64 x.rel, .slice A x.vals.length c] 57)).alloc (.cells #[.int .i64 0, .slice none 0 0] 57)).heap.size ((w.alloc (.cells #[.int .i64 x.rel, .slice A x.vals.length c] 57)).alloc (.cells #[.int .i64 0, .slice none 0 0] 57)) (((w.alloc (.cells #[.int .i64 x.rel, .slice A x.vals.length c] 57)).alloc (.cells #[.int .i64 0, .slice none 0 0] 57)).drew.alloc (.cells #[] 3)) from (Below.refl ((w.alloc (.cells #[.int .i64 x.rel, .slice A x.vals.length c] 57)).alloc (.cells #[.int .i64 0, .slice none 0 0] 57)).heap.size ((w.alloc (.cells #[.int .i64 x.rel, .slice A x.vals.length c] 57)).alloc (.cells #[.int .i64 0, .slice none 0 0] 57))).drew.alloc (show ((w.alloc (.cells #[.int .i64 x.rel, .slice A x.vals.length c] 57)).alloc (.cells #[.int .i64 0, .slice none 0 0] 57)).heap.size ≤ ((w.alloc (.cells #[.int .i64 x.rel, .slice A x.vals.length c] 57)).alloc (.cells #[.int .i64 0, .slice none 0 0] 57)).drew.heap.size from Nat.le_refl _) _)
  have HA := Lib.hid hA
  have HE := Lib.hid hEz
  clear hA hEz
  go_enter Tryz.func177, Tryz.ntmps177
  go_wp2
  refine wp_region_plan (C := fun w' => ∃ u : Aft ((w.alloc (.cells #[.int .i64 x.rel, .slice A x.vals.length c] 57)).alloc (.cells #[.int .i64 0, .slice none 0 0] 57)).heap.size ((w.alloc (.cells #[.int .i64 x.rel, .slice A x.vals.length c] 57)).alloc (.cells #[.int .i64 0, .slice none 0 0] 57)), w' = u.now) (.still 0 (.still 1 (.move true 2 (.still 3 (.still 4 (.move true 5 (.still 6 (.move false 7 .done .none)) .none))) .none))) (by kernel_rfl) (by kernel_rfl) (by kernel_rfl) (fun _ => ⟨⟨_, (Below.refl _ _).drew⟩, rfl⟩) ?_
  refine plan_look _ rfl rfl ?_
  go_big_quiet_step (fail)
  refine wpQuiet_nil ?_
  refine plan_look _ rfl rfl ?_
  go_big_quiet_step (fail)
  refine wpQuiet_nil ?_
  refine plan_value (u := .slice (some ⟨((w.alloc (.cells #[.int .i64 x.rel, .slice A x.vals.length c] 57)).alloc (.cells #[.int .i64 0, .slice none 0 0] 57)).heap.size, 0, none⟩) 0 0) (w' := ((w.alloc (.cells #[.int .i64 x.rel, .slice A x.vals.length c] 57)).alloc (.cells #[.int .i64 0, .slice none 0 0] 57)).drew.alloc (.cells #[] 3)) _ rfl rfl rfl (by simp [go_sem]) (fun _ => ⟨⟨_, HB1.out⟩, rfl⟩) ?_ True.intro
  refine plan_put ?_ (by simp only [Act.put, List.setIfInBounds_toArray, List.set_cons_succ, List.set_cons_zero]; rfl)
  refine plan_look _ rfl rfl ?_
  go_big_quiet_step (fail)
  refine wpQuiet_nil ?_
  refine plan_look _ rfl rfl ?_
  go_big_quiet_step (fail)
  refine wpQuiet_nil ?_
  have hb1 := HB1.out
  have hB1 := hE.trans (hb1.mono hE.size)
  have hO := OwnInts.empty ((w.alloc (.cells #[.int .i64 x.rel, .slice A x.vals.length c] 57)).alloc (.cells #[.int .i64 0, .slice none 0 0] 57)).drew ((w.alloc (.cells #[.int .i64 x.rel, .slice A x.vals.length c] 57)).alloc (.cells #[.int .i64 0, .slice none 0 0] 57)).heap.size (Nat.le_refl _)
  unfold OwnInts at hO
  rw [← flat_int] at hO
  refine plan_apps intCell 1 8 (fun x _ u hu => by simp [intCell] at hu; subst hu; rfl) (fun _ => rfl) (r := x.vals) _ rfl rfl Tryz.underlying55 infoInt rfl (by decide) hO _ _ rfl rfl A x.vals.length c rfl rfl (HV.out.below hB1 (Nat.le_refl _)) (by simp; omega) (by simp; omega) (by simp [World.drew]) ?_ True.intro
  intro v2 w2 hO2 hB2 _ _
  refine ⟨fun _ => ⟨⟨_, hb1.trans hB2⟩, rfl⟩, ?_⟩
  have hO3 : OwnInts ((w.alloc (.cells #[.int .i64 x.rel, .slice A x.vals.length c] 57)).alloc (.cells #[.int .i64 0, .slice none 0 0] 57)).heap.size v2 x.vals w2 := by
    have := hO2
    rw [flat_int] at this
    simpa [OwnInts] using this
  obtain ⟨P2, c2, rfl, -⟩ := hO3.at_
  have hb2 := hb1.trans hB2
  have m0 := (hb2.cell (p := ⟨w.heap.size + 1, 0, none⟩) (by show w.heap.size + 1 < _; have := HE.out; omega)).trans (show ((w.alloc (.cells #[.int .i64 x.rel, .slice A x.vals.length c] 57)).alloc (.cells #[.int .i64 0, .slice none 0 0] 57)).cell? ⟨w.heap.size + 1, 0, none⟩ = some (.int .i64 0) by simp [go_sem])
  have m1 := (hb2.cell (p := ⟨w.heap.size + 1, 1, none⟩) (by show w.heap.size + 1 < _; have := HE.out; omega)).trans (show ((w.alloc (.cells #[.int .i64 x.rel, .slice A x.vals.length c] 57)).alloc (.cells #[.int .i64 0, .slice none 0 0] 57)).cell? ⟨w.heap.size + 1, 1, none⟩ = some (.slice none 0 0) by simp [go_sem])
  have mz := fun o => (hb2.frozen (p := ⟨w.heap.size + 1, o, none⟩) (by show w.heap.size + 1 < _; have := HE.out; omega)).trans (show ((w.alloc (.cells #[.int .i64 x.rel, .slice A x.vals.length c] 57)).alloc (.cells #[.int .i64 0, .slice none 0 0] 57)).frozen? ⟨w.heap.size + 1, o, none⟩ = false by simp [go_sem])
  have HO := Lib.hid hO3
  have HB2 := Lib.hid hb2
  clear hO hO2 hO3 hB2 hb1 hb2 G0 G1
  refine plan_put ?_ (by simp only [Act.put, List.setIfInBounds_toArray, List.set_cons_succ, List.set_cons_zero]; rfl)
  refine plan_look _ rfl rfl ?_
  go_big_quiet_step (fail)
  refine wpQuiet_nil ?_
  refine plan_skip (w' := (w2.setCell ⟨w.heap.size + 1, 0, none⟩ (.int .i64 x.rel)).setCell ⟨w.heap.size + 1, 1, none⟩ (.slice P2 x.vals.length c2)) _ rfl rfl rfl (by simp [go_sem, m0, m1, mz]) (fun e => by cases e) ?_ True.intro
  refine plan_put ?_ (by simp only [Act.put]; rfl)
  refine plan_done ?_
  go_wp2
  refine bodyPost_ret (v := .agg #[.int .i64 x.rel, .slice P2 x.vals.length c2]) (by simp [results, Tryz.results177, go_sem, m0, m1]) rfl ⟨_, rfl, ⟨_, rfl, ?_, ?_⟩, ?_⟩
  · refine (HO.out.chg (((Chg.refl (fun q => q = w.heap.size + 1) w2).setCell (p := ⟨w.heap.size + 1, 0, none⟩) rfl _).setCell (p := ⟨w.heap.size + 1, 1, none⟩) rfl _) (fun g hg e => ?_)).mono hE.size
    have h1 := (HO.out.lt g hg).1
    have h2 := HE.out
    omega
  · intro g hg
    have := (HO.out.lt g hg).2
    simpa [World.setCell] using this
  · exact ((hE.trans (HB2.out.mono hE.size)).setCell (p := ⟨w.heap.size + 1, 0, none⟩) (by show w.heap.size ≤ w.heap.size + 1; omega) _).setCell (p := ⟨w.heap.size + 1, 1, none⟩) (by show w.heap.size ≤ w.heap.size + 1; omega) _

set_option maxHeartbeats 800000 in
theorem specIsValidRelation_any (s : ByteArray) (a : Int) (b : Bool) (w : World) :
    Calls Tryz.prog 101 #[.agg #[.string s, .int .i64 a, .bool b]] w fun e w' => e = .returned (.bool (relOk s a)) ∧ Below w.heap.size w w' := by
  by_cases h1 : s.size = 1
  · have h0 : 0 < s.size := by omega
    have HN := Lib.hid (nameOk_one s h1)
    by_cases h2 : (97 : Int) ≤ ((s[0].toNat : Nat) : Int)
    · by_cases h3 : ((s[0].toNat : Nat) : Int) ≤ 122
      · have hr : Hid (relOk s a = inB a 1 3) := Lib.hid (by unfold relOk; rw [HN.out]; simp [h2, h3])
        go_enter Tryz.func101, Tryz.ntmps101
        go_wp2_with (go_at_call 112; refine (l1In_any _ _ _ _).mono ?_; rintro e w' ⟨rfl, rfl⟩)
        go_ret
        refine ⟨?_, (Below.refl _ _).alloc (Nat.le_refl _) _⟩
        rw [hr.out]; rfl
      · have hr : Hid (relOk s a = false) := Lib.hid (by unfold relOk; rw [HN.out]; simp [h2, h3])
        go_enter Tryz.func101, Tryz.ntmps101
        go_wp2
        go_ret
        refine ⟨?_, (Below.refl _ _).alloc (Nat.le_refl _) _⟩
        rw [hr.out]; rfl
    · have hr : Hid (relOk s a = false) := Lib.hid (by unfold relOk; rw [HN.out]; simp [h2])
      go_enter Tryz.func101, Tryz.ntmps101
      go_wp2
      go_ret
      refine ⟨?_, (Below.refl _ _).alloc (Nat.le_refl _) _⟩
      rw [hr.out]; rfl
  · have hr : Hid (relOk s a = false) := Lib.hid (by unfold relOk; rw [nameOk_ne s h1]; rfl)
    go_enter Tryz.func101, Tryz.ntmps101
    go_wp2
    go_ret
    refine ⟨?_, (Below.refl _ _).alloc (Nat.le_refl _) _⟩
    rw [hr.out]; rfl

set_option maxHeartbeats 400000 in
theorem isRelationName_any (s : ByteArray) (w : World) :
    Calls Tryz.prog 192 #[.string s] w fun e w' => e = .returned (.bool (nameOk s)) ∧ w = w' := by
  by_cases h1 : s.size = 1
  · have hN := nameOk_one s h1
    generalize nameOk s = N at hN
    have h0 : 0 < s.size := by omega
    by_cases h2 : (97 : Int) ≤ ((s[0].toNat : Nat) : Int)
    all_goals
      have HN := Lib.hid hN
      clear hN
      go_enter Tryz.func192, Tryz.ntmps192
      go_wp2
      go_ret
      rw [HN.out]
      first | rfl | (simp [*]; done) | (simp; omega)
  · rw [nameOk_ne s h1]
    go_enter Tryz.func192, Tryz.ntmps192
    go_wp2
    go_ret
    exact ⟨rfl, rfl⟩

set_option maxHeartbeats 400000 in
theorem implIsValidRelation_any (s : ByteArray) (a : Int) (b : Bool) (w : World) :
    Calls Tryz.prog 117 #[.agg #[.string s, .int .i64 a, .bool b]] w fun e w' => e = .returned (.bool (relOk s a)) ∧ Below w.heap.size w w' := by
  unfold relOk inB
  cases hn : nameOk s
  · go_enter Tryz.func117, Tryz.ntmps117
    go_wp2_with (go_at_call 192; refine (isRelationName_any _ _).mono ?_; rintro e w' ⟨rfl, rfl⟩)
    go_ret
    exact ⟨rfl, (Below.refl _ _).alloc (Nat.le_refl _) _⟩
  · by_cases h1 : 1 ≤ a
    all_goals
      go_enter Tryz.func117, Tryz.ntmps117
      go_wp2_with (go_at_call 192; refine (isRelationName_any _ _).mono ?_; rintro e w' ⟨rfl, rfl⟩)
      go_ret
      refine ⟨?_, (Below.refl _ _).alloc (Nat.le_refl _) _⟩
      first | rfl | (simp [*]; done) | (simp; omega) | trace_state

end Go.Proofs.YtmecdjincmkofaaGreatDoor
